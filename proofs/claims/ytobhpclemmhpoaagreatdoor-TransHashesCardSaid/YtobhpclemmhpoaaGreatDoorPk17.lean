/- Part 17 of what the statement wants. -/
import Derived.Test.YtobhpclemmhpoaaGreatDoorPk16
namespace Go.Proofs.YtobhpclemmhpoaaGreatDoor
open Go.RowKit

structure MakeR where
  kind : Int
  a : Int
  b : Int
  c : Int
  s : List UInt8
def makeV (x : MakeR) : Value := .agg #[.int .i64 x.kind, .int .i64 x.a, .int .i64 x.b, .int .i64 x.c, .string (bs x.s)]
def mtextP (ids : List Int) (texts : List (List UInt8)) (x : MakeR) : List UInt8 :=
  if x.kind = 1 then refDataL x.s
  else if x.kind = 2 then refNonceL x.a x.b
  else if x.kind = 3 then refKeyL x.a
  else if x.kind = 4 then refPubL (pickP ids texts x.a).2
  else if x.kind = 5 then (if x.a < 0 then refBaseL x.s else refExpL (pickP ids texts x.a).2 (pickP ids texts x.b).2)
  else if x.kind = 6 then refSignL x.s (pickP ids texts x.a).2 (pickP ids texts x.b).2
  else if x.kind = 7 then refHashL (pickP ids texts x.a).2
  else if x.kind = 8 then refDeriveL (letterL x.s) (pickP ids texts x.a).2 (pickP ids texts x.b).2 (pickP ids texts x.c).2
  else if x.kind = 9 then refSealL (pickP ids texts x.a).2 (x.c % 4294967296).toNat (pickP ids texts x.b).2
  else if x.kind = 10 then refListL (runP texts ids.length x.a x.b)
  else []
theorem pick_len {ids : List Int} {texts : List (List UInt8)} {m : Nat} (h : ∀ t ∈ texts, t.length ≤ m) (i : Int) : (pickP ids texts i).2.length ≤ m := by
  unfold pickP
  split
  · simp only
    by_cases hk : i.toNat < texts.length
    · rw [show texts.getD i.toNat [] = texts[i.toNat] by simp [List.getD, hk]]
      exact h _ (List.getElem_mem hk)
    · rw [show texts.getD i.toNat [] = [] by simp [List.getD, hk]]
      simp
  · simp
theorem pick_mem {ids : List Int} {texts : List (List UInt8)} (i : Int) : (pickP ids texts i).2 = [] ∨ (pickP ids texts i).2 ∈ texts := by
  unfold pickP
  split
  · simp only
    by_cases hk : i.toNat < texts.length
    · rw [show texts.getD i.toNat [] = texts[i.toNat] by simp [List.getD, hk]]
      exact .inr (List.getElem_mem hk)
    · rw [show texts.getD i.toNat [] = [] by simp [List.getD, hk]]
      exact .inl rfl
  · exact .inl rfl
theorem run_mem {α : Type} {l : List α} {n : Nat} {f m : Int} {x : α} (h : x ∈ runP l n f m) : x ∈ l := List.mem_of_mem_drop (List.mem_of_mem_take h)
theorem run_len {α : Type} (l : List α) (n : Nat) (f m : Int) : (runP l n f m).length ≤ 40 := by
  unfold runP runN
  rw [List.length_take]
  split <;> omega
/-- What a share's text must be, taken apart, that it can be raised: held by every text that was made. -/
def Raisable (t : List UInt8) : Prop := kindL t = 5 → (nodeOf t).s.length ≤ 10000 ∧ ∀ a ∈ (nodeOf t).args, a.length ≤ 10000

set_option maxHeartbeats 2000000 in
set_option maxRecDepth 100000 in
theorem mtext_any {w : World} {vi vt : Value} {ids : List Int} {texts : List (List UInt8)} (hI : IdsAt w vi ids) (hT : TextsAt w vt (texts.map bs)) (hl : texts.length = ids.length) (hn : ids.length ≤ 1000000)
    (hlen : ∀ t ∈ texts, t.length ≤ 131072) (x : MakeR) (hs : x.s.length ≤ 10000) (hb9 : x.kind = 5 → (pickP ids texts x.b).2.length ≤ 10000 ∨ kindL (pickP ids texts x.b).2 ≠ 2) (hr : ∀ t ∈ texts, Raisable t) :
    Calls Tryz.prog 22 #[.agg #[vi, vt], makeV x] w fun e w' => e = .returned (.string (bs (mtextP ids texts x))) ∧ Below w.heap.size w w' := by
  obtain ⟨K, a, b, c, s⟩ := x
  simp only at hs hb9
  unfold makeV
  simp only
  have hIb : ∀ W, Below w.heap.size w W → IdsAt W vi ids := fun W h => hI.below h
  have hTb : ∀ W, Below w.heap.size w W → TextsAt W vt (texts.map bs) := fun W h => hT.below h
  have HPa := Lib.hid (fun W (h : Below w.heap.size w W) => Pick_any (hIb W h) (hTb W h) hl hn a)
  have HPb := Lib.hid (fun W (h : Below w.heap.size w W) => Pick_any (hIb W h) (hTb W h) hl hn b)
  have HPc := Lib.hid (fun W (h : Below w.heap.size w W) => Pick_any (hIb W h) (hTb W h) hl hn c)
  have HRn := Lib.hid (fun W (h : Below w.heap.size w W) => run_any (hIb W h) (hTb W h) hl hn a b)
  have la : (pickP ids texts a).2.length ≤ 131072 := pick_len hlen a
  have lb : (pickP ids texts b).2.length ≤ 131072 := pick_len hlen b
  have lc : (pickP ids texts c).2.length ≤ 131072 := pick_len hlen c
  have ra : Raisable (pickP ids texts a).2 := by
    rcases pick_mem (ids := ids) (texts := texts) a with h | h
    · rw [h]; intro h; simp [kindL] at h
    · exact hr _ h
  have rl : ∀ t ∈ runP texts ids.length a b, t.length ≤ 131072 := fun t h => hlen t (run_mem h)
  have rn := run_len texts ids.length a b
  have HB1 : Below w.heap.size w ((w.alloc (.cells #[vi, vt] 47)).alloc (.cells #[.int .i64 K, .int .i64 a, .int .i64 b, .int .i64 c, .string (bs s)] 57)) := ((Below.refl _ _).alloc (Nat.le_refl _) _).alloc (by simp) _
  have hM : Holds ((w.alloc (.cells #[vi, vt] 47)).alloc (.cells #[.int .i64 K, .int .i64 a, .int .i64 b, .int .i64 c, .string (bs s)] 57)) w.heap.size 47 #[vi, vt] := (Holds.new w _ _).moves ((Moves.refl nobody _).alloc _) (fun h => h)
  have hX : Holds ((w.alloc (.cells #[vi, vt] 47)).alloc (.cells #[.int .i64 K, .int .i64 a, .int .i64 b, .int .i64 c, .string (bs s)] 57)) (w.heap.size + 1) 57 #[.int .i64 K, .int .i64 a, .int .i64 b, .int .i64 c, .string (bs s)] := by
    have := Holds.new (w.alloc (.cells #[vi, vt] 47)) 57 #[.int .i64 K, .int .i64 a, .int .i64 b, .int .i64 c, .string (bs s)]
    rwa [World.size_alloc] at this
  obtain ⟨P, hP⟩ : ∃ P, P = (pickP ids texts a).2 := ⟨_, rfl⟩
  obtain ⟨Q, hQ⟩ : ∃ Q, Q = (pickP ids texts b).2 := ⟨_, rfl⟩
  obtain ⟨R, hR⟩ : ∃ R, R = (pickP ids texts c).2 := ⟨_, rfl⟩
  obtain ⟨Lr, hLr⟩ : ∃ Lr, Lr = runP texts ids.length a b := ⟨_, rfl⟩
  have HU : Hid (mtextP ids texts ⟨K, a, b, c, s⟩ = if K = 1 then refDataL s else if K = 2 then refNonceL a b else if K = 3 then refKeyL a else if K = 4 then refPubL P else if K = 5 then (if a < 0 then refBaseL s else refExpL P Q) else if K = 6 then refSignL s P Q
    else if K = 7 then refHashL P else if K = 8 then refDeriveL (letterL s) P Q R else if K = 9 then refSealL P (c % 4294967296).toNat Q else if K = 10 then refListL Lr else []) := by rw [hP, hQ, hR, hLr]; rfl
  simp only [← hP] at HPa la ra
  simp only [← hQ] at HPb lb hb9
  simp only [← hR] at HPc lc
  simp only [← hLr] at HRn rl rn
  generalize (pickP ids texts a).1 = ia at *
  generalize (pickP ids texts b).1 = ib at *
  generalize (pickP ids texts c).1 = ic at *
  generalize hTm : mtextP ids texts ⟨K, a, b, c, s⟩ = T at *
  clear hI hT hIb hTb hlen hr hP hQ hR hLr hTm hl
  have HM := Lib.hid hM
  have HX := Lib.hid hX
  have m0 := hM.cell 0
  have m1 := hM.cell 1
  have x0 := hX.cell 0
  have x1 := hX.cell 1
  have x2 := hX.cell 2
  have x3 := hX.cell 3
  have x4 := hX.cell 4
  clear hM hX
  by_cases k1 : K = 1
  · subst k1
    have HE : Hid (bs T = bs (refDataL s)) := by show _ = _; rw [HU.out]; simp
    have HC := Lib.hid (fun W => refData_any s (by omega) W)
    generalize bs (refDataL s) = G at *
    clear HU la lb lc ra rl rn hb9 hs
    generalize bs P = PS at *
    generalize bs Q = QS at *
    generalize bs R = RS at *
    generalize bs s = SS at *
    go_enter Tryz.func22, Tryz.ntmps22
    go_wp2_with (first
      | (go_at_call 30; with_reducible refine (HC.out _).mono ?_; rintro e w5 ⟨rfl, b5⟩)
      | (go_at_call 20; with_reducible refine (HPc.out _ hb2).mono ?_; rintro e w3 ⟨rfl, b3⟩; have hb3 := (hb2).trans (b3.mono (hb2).size); have hM3 := Holds.moves hM2 (Moves.ofBelow (S := nobody) b3) (fun h => h); have hX3 := Holds.moves hX2 (Moves.ofBelow (S := nobody) b3) (fun h => h); have m30 := hM3.cell 0; have m31 := hM3.cell 1; have x30 := hX3.cell 0; have x31 := hX3.cell 1; have x32 := hX3.cell 2; have x33 := hX3.cell 3; have x34 := hX3.cell 4)
      | (go_at_call 20; with_reducible refine (HPb.out _ hb1).mono ?_; rintro e w2 ⟨rfl, b2⟩; have hb2 := (hb1).trans (b2.mono (hb1).size); have hM2 := Holds.moves hM1 (Moves.ofBelow (S := nobody) b2) (fun h => h); have hX2 := Holds.moves hX1 (Moves.ofBelow (S := nobody) b2) (fun h => h); have m20 := hM2.cell 0; have m21 := hM2.cell 1; have x20 := hX2.cell 0; have x21 := hX2.cell 1; have x22 := hX2.cell 2; have x23 := hX2.cell 3; have x24 := hX2.cell 4)
      | (go_at_call 20; with_reducible refine (HPa.out _ HB1).mono ?_; rintro e w1 ⟨rfl, b1⟩; have hb1 := (HB1).trans (b1.mono (HB1).size); have hM1 := Holds.moves HM.out (Moves.ofBelow (S := nobody) b1) (fun h => h); have hX1 := Holds.moves HX.out (Moves.ofBelow (S := nobody) b1) (fun h => h); have m10 := hM1.cell 0; have m11 := hM1.cell 1; have x10 := hX1.cell 0; have x11 := hX1.cell 1; have x12 := hX1.cell 2; have x13 := hX1.cell 3; have x14 := hX1.cell 4))
    go_ret
    exact ⟨by rw [HE.out]; rfl, hb3.trans (b5.mono hb3.size)⟩
  by_cases k2 : K = 2
  · subst k2
    have HE : Hid (bs T = bs (refNonceL a b)) := by show _ = _; rw [HU.out]; simp
    have HC := Lib.hid (fun W => refNonce_any a b W)
    generalize bs (refNonceL a b) = G at *
    clear HU la lb lc ra rl rn hb9 hs
    generalize bs P = PS at *
    generalize bs Q = QS at *
    generalize bs R = RS at *
    generalize bs s = SS at *
    go_enter Tryz.func22, Tryz.ntmps22
    go_wp2_with (first
      | (go_at_call 51; with_reducible refine (HC.out _).mono ?_; rintro e w5 ⟨rfl, b5⟩)
      | (go_at_call 20; with_reducible refine (HPc.out _ hb2).mono ?_; rintro e w3 ⟨rfl, b3⟩; have hb3 := (hb2).trans (b3.mono (hb2).size); have hM3 := Holds.moves hM2 (Moves.ofBelow (S := nobody) b3) (fun h => h); have hX3 := Holds.moves hX2 (Moves.ofBelow (S := nobody) b3) (fun h => h); have m30 := hM3.cell 0; have m31 := hM3.cell 1; have x30 := hX3.cell 0; have x31 := hX3.cell 1; have x32 := hX3.cell 2; have x33 := hX3.cell 3; have x34 := hX3.cell 4)
      | (go_at_call 20; with_reducible refine (HPb.out _ hb1).mono ?_; rintro e w2 ⟨rfl, b2⟩; have hb2 := (hb1).trans (b2.mono (hb1).size); have hM2 := Holds.moves hM1 (Moves.ofBelow (S := nobody) b2) (fun h => h); have hX2 := Holds.moves hX1 (Moves.ofBelow (S := nobody) b2) (fun h => h); have m20 := hM2.cell 0; have m21 := hM2.cell 1; have x20 := hX2.cell 0; have x21 := hX2.cell 1; have x22 := hX2.cell 2; have x23 := hX2.cell 3; have x24 := hX2.cell 4)
      | (go_at_call 20; with_reducible refine (HPa.out _ HB1).mono ?_; rintro e w1 ⟨rfl, b1⟩; have hb1 := (HB1).trans (b1.mono (HB1).size); have hM1 := Holds.moves HM.out (Moves.ofBelow (S := nobody) b1) (fun h => h); have hX1 := Holds.moves HX.out (Moves.ofBelow (S := nobody) b1) (fun h => h); have m10 := hM1.cell 0; have m11 := hM1.cell 1; have x10 := hX1.cell 0; have x11 := hX1.cell 1; have x12 := hX1.cell 2; have x13 := hX1.cell 3; have x14 := hX1.cell 4))
    go_ret
    exact ⟨by rw [HE.out]; rfl, hb3.trans (b5.mono hb3.size)⟩
  by_cases k3 : K = 3
  · subst k3
    have HE : Hid (bs T = bs (refKeyL a)) := by show _ = _; rw [HU.out]; simp
    have HC := Lib.hid (fun W => refKey_any a W)
    generalize bs (refKeyL a) = G at *
    clear HU la lb lc ra rl rn hb9 hs
    generalize bs P = PS at *
    generalize bs Q = QS at *
    generalize bs R = RS at *
    generalize bs s = SS at *
    go_enter Tryz.func22, Tryz.ntmps22
    go_wp2_with (first
      | (go_at_call 52; with_reducible refine (HC.out _).mono ?_; rintro e w5 ⟨rfl, b5⟩)
      | (go_at_call 20; with_reducible refine (HPc.out _ hb2).mono ?_; rintro e w3 ⟨rfl, b3⟩; have hb3 := (hb2).trans (b3.mono (hb2).size); have hM3 := Holds.moves hM2 (Moves.ofBelow (S := nobody) b3) (fun h => h); have hX3 := Holds.moves hX2 (Moves.ofBelow (S := nobody) b3) (fun h => h); have m30 := hM3.cell 0; have m31 := hM3.cell 1; have x30 := hX3.cell 0; have x31 := hX3.cell 1; have x32 := hX3.cell 2; have x33 := hX3.cell 3; have x34 := hX3.cell 4)
      | (go_at_call 20; with_reducible refine (HPb.out _ hb1).mono ?_; rintro e w2 ⟨rfl, b2⟩; have hb2 := (hb1).trans (b2.mono (hb1).size); have hM2 := Holds.moves hM1 (Moves.ofBelow (S := nobody) b2) (fun h => h); have hX2 := Holds.moves hX1 (Moves.ofBelow (S := nobody) b2) (fun h => h); have m20 := hM2.cell 0; have m21 := hM2.cell 1; have x20 := hX2.cell 0; have x21 := hX2.cell 1; have x22 := hX2.cell 2; have x23 := hX2.cell 3; have x24 := hX2.cell 4)
      | (go_at_call 20; with_reducible refine (HPa.out _ HB1).mono ?_; rintro e w1 ⟨rfl, b1⟩; have hb1 := (HB1).trans (b1.mono (HB1).size); have hM1 := Holds.moves HM.out (Moves.ofBelow (S := nobody) b1) (fun h => h); have hX1 := Holds.moves HX.out (Moves.ofBelow (S := nobody) b1) (fun h => h); have m10 := hM1.cell 0; have m11 := hM1.cell 1; have x10 := hX1.cell 0; have x11 := hX1.cell 1; have x12 := hX1.cell 2; have x13 := hX1.cell 3; have x14 := hX1.cell 4))
    go_ret
    exact ⟨by rw [HE.out]; rfl, hb3.trans (b5.mono hb3.size)⟩
  by_cases k4 : K = 4
  · subst k4
    have HE : Hid (bs T = bs (refPubL P)) := by show _ = _; rw [HU.out]; simp
    have HC := Lib.hid (fun W => refPub_any P (by omega) W)
    generalize bs (refPubL P) = G at *
    clear HU la lb lc ra rl rn hb9 hs
    generalize bs P = PS at *
    generalize bs Q = QS at *
    generalize bs R = RS at *
    generalize bs s = SS at *
    go_enter Tryz.func22, Tryz.ntmps22
    go_wp2_with (first
      | (go_at_call 53; with_reducible refine (HC.out _).mono ?_; rintro e w5 ⟨rfl, b5⟩)
      | (go_at_call 20; with_reducible refine (HPc.out _ hb2).mono ?_; rintro e w3 ⟨rfl, b3⟩; have hb3 := (hb2).trans (b3.mono (hb2).size); have hM3 := Holds.moves hM2 (Moves.ofBelow (S := nobody) b3) (fun h => h); have hX3 := Holds.moves hX2 (Moves.ofBelow (S := nobody) b3) (fun h => h); have m30 := hM3.cell 0; have m31 := hM3.cell 1; have x30 := hX3.cell 0; have x31 := hX3.cell 1; have x32 := hX3.cell 2; have x33 := hX3.cell 3; have x34 := hX3.cell 4)
      | (go_at_call 20; with_reducible refine (HPb.out _ hb1).mono ?_; rintro e w2 ⟨rfl, b2⟩; have hb2 := (hb1).trans (b2.mono (hb1).size); have hM2 := Holds.moves hM1 (Moves.ofBelow (S := nobody) b2) (fun h => h); have hX2 := Holds.moves hX1 (Moves.ofBelow (S := nobody) b2) (fun h => h); have m20 := hM2.cell 0; have m21 := hM2.cell 1; have x20 := hX2.cell 0; have x21 := hX2.cell 1; have x22 := hX2.cell 2; have x23 := hX2.cell 3; have x24 := hX2.cell 4)
      | (go_at_call 20; with_reducible refine (HPa.out _ HB1).mono ?_; rintro e w1 ⟨rfl, b1⟩; have hb1 := (HB1).trans (b1.mono (HB1).size); have hM1 := Holds.moves HM.out (Moves.ofBelow (S := nobody) b1) (fun h => h); have hX1 := Holds.moves HX.out (Moves.ofBelow (S := nobody) b1) (fun h => h); have m10 := hM1.cell 0; have m11 := hM1.cell 1; have x10 := hX1.cell 0; have x11 := hX1.cell 1; have x12 := hX1.cell 2; have x13 := hX1.cell 3; have x14 := hX1.cell 4))
    go_ret
    exact ⟨by rw [HE.out]; rfl, hb3.trans (b5.mono hb3.size)⟩
  by_cases k5 : K = 5
  · subst k5
    by_cases ha : a < 0
    · have q1 : decide (a < 0) = true := decide_eq_true ha
      have HE : Hid (bs T = bs (refBaseL s)) := by show _ = _; rw [HU.out]; simp [ha]
      have HC := Lib.hid (fun W => refBase_any s (by omega) W)
      generalize bs (refBaseL s) = G at *
      clear HU la lb lc ra rl rn hb9 hs
      generalize bs P = PS at *
      generalize bs Q = QS at *
      generalize bs R = RS at *
      generalize bs s = SS at *
      go_enter Tryz.func22, Tryz.ntmps22
      go_wp2_with (first
        | (go_at_call 54; with_reducible refine (HC.out _).mono ?_; rintro e w5 ⟨rfl, b5⟩)
        | (go_at_call 20; with_reducible refine (HPc.out _ hb2).mono ?_; rintro e w3 ⟨rfl, b3⟩; have hb3 := (hb2).trans (b3.mono (hb2).size); have hM3 := Holds.moves hM2 (Moves.ofBelow (S := nobody) b3) (fun h => h); have hX3 := Holds.moves hX2 (Moves.ofBelow (S := nobody) b3) (fun h => h); have m30 := hM3.cell 0; have m31 := hM3.cell 1; have x30 := hX3.cell 0; have x31 := hX3.cell 1; have x32 := hX3.cell 2; have x33 := hX3.cell 3; have x34 := hX3.cell 4)
        | (go_at_call 20; with_reducible refine (HPb.out _ hb1).mono ?_; rintro e w2 ⟨rfl, b2⟩; have hb2 := (hb1).trans (b2.mono (hb1).size); have hM2 := Holds.moves hM1 (Moves.ofBelow (S := nobody) b2) (fun h => h); have hX2 := Holds.moves hX1 (Moves.ofBelow (S := nobody) b2) (fun h => h); have m20 := hM2.cell 0; have m21 := hM2.cell 1; have x20 := hX2.cell 0; have x21 := hX2.cell 1; have x22 := hX2.cell 2; have x23 := hX2.cell 3; have x24 := hX2.cell 4)
        | (go_at_call 20; with_reducible refine (HPa.out _ HB1).mono ?_; rintro e w1 ⟨rfl, b1⟩; have hb1 := (HB1).trans (b1.mono (HB1).size); have hM1 := Holds.moves HM.out (Moves.ofBelow (S := nobody) b1) (fun h => h); have hX1 := Holds.moves HX.out (Moves.ofBelow (S := nobody) b1) (fun h => h); have m10 := hM1.cell 0; have m11 := hM1.cell 1; have x10 := hX1.cell 0; have x11 := hX1.cell 1; have x12 := hX1.cell 2; have x13 := hX1.cell 3; have x14 := hX1.cell 4))
      go_ret
      exact ⟨by rw [HE.out]; rfl, hb3.trans (b5.mono hb3.size)⟩
    · have q1 : decide (a < 0) = false := decide_eq_false ha
      have HE : Hid (bs T = bs (refExpL P Q)) := by show _ = _; rw [HU.out]; simp [ha]
      have HC : Hid (∀ W : World, Calls Tryz.prog 55 #[.string (bs P), .string (bs Q)] W fun e w' => e = .returned (.string (bs (refExpL P Q))) ∧ Below W.heap.size W w') := fun W => refExp_any' P Q (by omega) (hb9 rfl) ra W
      generalize bs (refExpL P Q) = G at *
      clear HU la lb lc ra rl rn hb9 hs
      generalize bs P = PS at *
      generalize bs Q = QS at *
      generalize bs R = RS at *
      generalize bs s = SS at *
      go_enter Tryz.func22, Tryz.ntmps22
      go_wp2_with (first
        | (go_at_call 55; with_reducible refine (HC.out _).mono ?_; rintro e w5 ⟨rfl, b5⟩)
        | (go_at_call 20; with_reducible refine (HPc.out _ hb2).mono ?_; rintro e w3 ⟨rfl, b3⟩; have hb3 := (hb2).trans (b3.mono (hb2).size); have hM3 := Holds.moves hM2 (Moves.ofBelow (S := nobody) b3) (fun h => h); have hX3 := Holds.moves hX2 (Moves.ofBelow (S := nobody) b3) (fun h => h); have m30 := hM3.cell 0; have m31 := hM3.cell 1; have x30 := hX3.cell 0; have x31 := hX3.cell 1; have x32 := hX3.cell 2; have x33 := hX3.cell 3; have x34 := hX3.cell 4)
        | (go_at_call 20; with_reducible refine (HPb.out _ hb1).mono ?_; rintro e w2 ⟨rfl, b2⟩; have hb2 := (hb1).trans (b2.mono (hb1).size); have hM2 := Holds.moves hM1 (Moves.ofBelow (S := nobody) b2) (fun h => h); have hX2 := Holds.moves hX1 (Moves.ofBelow (S := nobody) b2) (fun h => h); have m20 := hM2.cell 0; have m21 := hM2.cell 1; have x20 := hX2.cell 0; have x21 := hX2.cell 1; have x22 := hX2.cell 2; have x23 := hX2.cell 3; have x24 := hX2.cell 4)
        | (go_at_call 20; with_reducible refine (HPa.out _ HB1).mono ?_; rintro e w1 ⟨rfl, b1⟩; have hb1 := (HB1).trans (b1.mono (HB1).size); have hM1 := Holds.moves HM.out (Moves.ofBelow (S := nobody) b1) (fun h => h); have hX1 := Holds.moves HX.out (Moves.ofBelow (S := nobody) b1) (fun h => h); have m10 := hM1.cell 0; have m11 := hM1.cell 1; have x10 := hX1.cell 0; have x11 := hX1.cell 1; have x12 := hX1.cell 2; have x13 := hX1.cell 3; have x14 := hX1.cell 4))
      go_ret
      exact ⟨by rw [HE.out]; rfl, hb3.trans (b5.mono hb3.size)⟩
  by_cases k6 : K = 6
  · subst k6
    have HE : Hid (bs T = bs (refSignL s P Q)) := by show _ = _; rw [HU.out]; simp
    have HC := Lib.hid (fun W => refSign_any s P Q (by omega) (by omega) (by omega) W)
    generalize bs (refSignL s P Q) = G at *
    clear HU la lb lc ra rl rn hb9 hs
    generalize bs P = PS at *
    generalize bs Q = QS at *
    generalize bs R = RS at *
    generalize bs s = SS at *
    go_enter Tryz.func22, Tryz.ntmps22
    go_wp2_with (first
      | (go_at_call 56; with_reducible refine (HC.out _).mono ?_; rintro e w5 ⟨rfl, b5⟩)
      | (go_at_call 20; with_reducible refine (HPc.out _ hb2).mono ?_; rintro e w3 ⟨rfl, b3⟩; have hb3 := (hb2).trans (b3.mono (hb2).size); have hM3 := Holds.moves hM2 (Moves.ofBelow (S := nobody) b3) (fun h => h); have hX3 := Holds.moves hX2 (Moves.ofBelow (S := nobody) b3) (fun h => h); have m30 := hM3.cell 0; have m31 := hM3.cell 1; have x30 := hX3.cell 0; have x31 := hX3.cell 1; have x32 := hX3.cell 2; have x33 := hX3.cell 3; have x34 := hX3.cell 4)
      | (go_at_call 20; with_reducible refine (HPb.out _ hb1).mono ?_; rintro e w2 ⟨rfl, b2⟩; have hb2 := (hb1).trans (b2.mono (hb1).size); have hM2 := Holds.moves hM1 (Moves.ofBelow (S := nobody) b2) (fun h => h); have hX2 := Holds.moves hX1 (Moves.ofBelow (S := nobody) b2) (fun h => h); have m20 := hM2.cell 0; have m21 := hM2.cell 1; have x20 := hX2.cell 0; have x21 := hX2.cell 1; have x22 := hX2.cell 2; have x23 := hX2.cell 3; have x24 := hX2.cell 4)
      | (go_at_call 20; with_reducible refine (HPa.out _ HB1).mono ?_; rintro e w1 ⟨rfl, b1⟩; have hb1 := (HB1).trans (b1.mono (HB1).size); have hM1 := Holds.moves HM.out (Moves.ofBelow (S := nobody) b1) (fun h => h); have hX1 := Holds.moves HX.out (Moves.ofBelow (S := nobody) b1) (fun h => h); have m10 := hM1.cell 0; have m11 := hM1.cell 1; have x10 := hX1.cell 0; have x11 := hX1.cell 1; have x12 := hX1.cell 2; have x13 := hX1.cell 3; have x14 := hX1.cell 4))
    go_ret
    exact ⟨by rw [HE.out]; rfl, hb3.trans (b5.mono hb3.size)⟩
  by_cases k7 : K = 7
  · subst k7
    have HE : Hid (bs T = bs (refHashL P)) := by show _ = _; rw [HU.out]; simp
    have HC := Lib.hid (fun W => refHash_any P (by omega) W)
    generalize bs (refHashL P) = G at *
    clear HU la lb lc ra rl rn hb9 hs
    generalize bs P = PS at *
    generalize bs Q = QS at *
    generalize bs R = RS at *
    generalize bs s = SS at *
    go_enter Tryz.func22, Tryz.ntmps22
    go_wp2_with (first
      | (go_at_call 35; with_reducible refine (HC.out _).mono ?_; rintro e w5 ⟨rfl, b5⟩)
      | (go_at_call 20; with_reducible refine (HPc.out _ hb2).mono ?_; rintro e w3 ⟨rfl, b3⟩; have hb3 := (hb2).trans (b3.mono (hb2).size); have hM3 := Holds.moves hM2 (Moves.ofBelow (S := nobody) b3) (fun h => h); have hX3 := Holds.moves hX2 (Moves.ofBelow (S := nobody) b3) (fun h => h); have m30 := hM3.cell 0; have m31 := hM3.cell 1; have x30 := hX3.cell 0; have x31 := hX3.cell 1; have x32 := hX3.cell 2; have x33 := hX3.cell 3; have x34 := hX3.cell 4)
      | (go_at_call 20; with_reducible refine (HPb.out _ hb1).mono ?_; rintro e w2 ⟨rfl, b2⟩; have hb2 := (hb1).trans (b2.mono (hb1).size); have hM2 := Holds.moves hM1 (Moves.ofBelow (S := nobody) b2) (fun h => h); have hX2 := Holds.moves hX1 (Moves.ofBelow (S := nobody) b2) (fun h => h); have m20 := hM2.cell 0; have m21 := hM2.cell 1; have x20 := hX2.cell 0; have x21 := hX2.cell 1; have x22 := hX2.cell 2; have x23 := hX2.cell 3; have x24 := hX2.cell 4)
      | (go_at_call 20; with_reducible refine (HPa.out _ HB1).mono ?_; rintro e w1 ⟨rfl, b1⟩; have hb1 := (HB1).trans (b1.mono (HB1).size); have hM1 := Holds.moves HM.out (Moves.ofBelow (S := nobody) b1) (fun h => h); have hX1 := Holds.moves HX.out (Moves.ofBelow (S := nobody) b1) (fun h => h); have m10 := hM1.cell 0; have m11 := hM1.cell 1; have x10 := hX1.cell 0; have x11 := hX1.cell 1; have x12 := hX1.cell 2; have x13 := hX1.cell 3; have x14 := hX1.cell 4))
    go_ret
    exact ⟨by rw [HE.out]; rfl, hb3.trans (b5.mono hb3.size)⟩
  by_cases k8 : K = 8
  · subst k8
    have HE : Hid (bs T = bs (refDeriveL (letterL s) P Q R)) := by show _ = _; rw [HU.out]; simp
    have HC := Lib.hid (fun W => refDerive_any (letterL s) P Q R (by omega) (by omega) (by omega) W)
    have HL := Lib.hid (fun W => letter_any s W)
    generalize bs (refDeriveL (letterL s) P Q R) = G at *
    generalize (letterL s).toNat = lt at *
    clear HU la lb lc ra rl rn hb9 hs
    generalize bs P = PS at *
    generalize bs Q = QS at *
    generalize bs R = RS at *
    generalize bs s = SS at *
    go_enter Tryz.func22, Tryz.ntmps22
    go_wp2_with (first
      | (go_at_call 57; with_reducible refine (HC.out _).mono ?_; rintro e w5 ⟨rfl, b5⟩)
      | (go_at_call 48; with_reducible refine (HL.out _).mono ?_; rintro e w4 ⟨rfl, b4⟩)
      | (go_at_call 20; with_reducible refine (HPc.out _ hb2).mono ?_; rintro e w3 ⟨rfl, b3⟩; have hb3 := (hb2).trans (b3.mono (hb2).size); have hM3 := Holds.moves hM2 (Moves.ofBelow (S := nobody) b3) (fun h => h); have hX3 := Holds.moves hX2 (Moves.ofBelow (S := nobody) b3) (fun h => h); have m30 := hM3.cell 0; have m31 := hM3.cell 1; have x30 := hX3.cell 0; have x31 := hX3.cell 1; have x32 := hX3.cell 2; have x33 := hX3.cell 3; have x34 := hX3.cell 4)
      | (go_at_call 20; with_reducible refine (HPb.out _ hb1).mono ?_; rintro e w2 ⟨rfl, b2⟩; have hb2 := (hb1).trans (b2.mono (hb1).size); have hM2 := Holds.moves hM1 (Moves.ofBelow (S := nobody) b2) (fun h => h); have hX2 := Holds.moves hX1 (Moves.ofBelow (S := nobody) b2) (fun h => h); have m20 := hM2.cell 0; have m21 := hM2.cell 1; have x20 := hX2.cell 0; have x21 := hX2.cell 1; have x22 := hX2.cell 2; have x23 := hX2.cell 3; have x24 := hX2.cell 4)
      | (go_at_call 20; with_reducible refine (HPa.out _ HB1).mono ?_; rintro e w1 ⟨rfl, b1⟩; have hb1 := (HB1).trans (b1.mono (HB1).size); have hM1 := Holds.moves HM.out (Moves.ofBelow (S := nobody) b1) (fun h => h); have hX1 := Holds.moves HX.out (Moves.ofBelow (S := nobody) b1) (fun h => h); have m10 := hM1.cell 0; have m11 := hM1.cell 1; have x10 := hX1.cell 0; have x11 := hX1.cell 1; have x12 := hX1.cell 2; have x13 := hX1.cell 3; have x14 := hX1.cell 4))
    go_ret
    exact ⟨by rw [HE.out]; rfl, (hb3.trans (b4.mono hb3.size)).trans (b5.mono (hb3.trans (b4.mono hb3.size)).size)⟩
  by_cases k9 : K = 9
  · subst k9
    have hcz : ((c % 4294967296).toNat : Int) = c % 4294967296 := by omega
    have HE : Hid (bs T = bs (refSealL P (c % 4294967296).toNat Q)) := by show _ = _; rw [HU.out]; simp
    have hC := fun W => refSeal_any P Q (c % 4294967296).toNat (by omega) (by omega) (by omega) W
    rw [hcz] at hC
    have HC := Lib.hid hC
    clear hC hcz
    generalize bs (refSealL P (c % 4294967296).toNat Q) = G at *
    clear HU la lb lc ra rl rn hb9 hs
    generalize bs P = PS at *
    generalize bs Q = QS at *
    generalize bs R = RS at *
    generalize bs s = SS at *
    go_enter Tryz.func22, Tryz.ntmps22
    go_wp2_with (first
      | (go_at_call 58; with_reducible refine (HC.out _).mono ?_; rintro e w5 ⟨rfl, b5⟩)
      | (go_at_call 20; with_reducible refine (HPc.out _ hb2).mono ?_; rintro e w3 ⟨rfl, b3⟩; have hb3 := (hb2).trans (b3.mono (hb2).size); have hM3 := Holds.moves hM2 (Moves.ofBelow (S := nobody) b3) (fun h => h); have hX3 := Holds.moves hX2 (Moves.ofBelow (S := nobody) b3) (fun h => h); have m30 := hM3.cell 0; have m31 := hM3.cell 1; have x30 := hX3.cell 0; have x31 := hX3.cell 1; have x32 := hX3.cell 2; have x33 := hX3.cell 3; have x34 := hX3.cell 4)
      | (go_at_call 20; with_reducible refine (HPb.out _ hb1).mono ?_; rintro e w2 ⟨rfl, b2⟩; have hb2 := (hb1).trans (b2.mono (hb1).size); have hM2 := Holds.moves hM1 (Moves.ofBelow (S := nobody) b2) (fun h => h); have hX2 := Holds.moves hX1 (Moves.ofBelow (S := nobody) b2) (fun h => h); have m20 := hM2.cell 0; have m21 := hM2.cell 1; have x20 := hX2.cell 0; have x21 := hX2.cell 1; have x22 := hX2.cell 2; have x23 := hX2.cell 3; have x24 := hX2.cell 4)
      | (go_at_call 20; with_reducible refine (HPa.out _ HB1).mono ?_; rintro e w1 ⟨rfl, b1⟩; have hb1 := (HB1).trans (b1.mono (HB1).size); have hM1 := Holds.moves HM.out (Moves.ofBelow (S := nobody) b1) (fun h => h); have hX1 := Holds.moves HX.out (Moves.ofBelow (S := nobody) b1) (fun h => h); have m10 := hM1.cell 0; have m11 := hM1.cell 1; have x10 := hX1.cell 0; have x11 := hX1.cell 1; have x12 := hX1.cell 2; have x13 := hX1.cell 3; have x14 := hX1.cell 4))
    go_ret
    exact ⟨by rw [HE.out]; rfl, hb3.trans (b5.mono hb3.size)⟩
  by_cases k10 : K = 10
  · subst k10
    have HE : Hid (bs T = bs (refListL Lr)) := by show _ = _; rw [HU.out]; simp
    have HC := Lib.hid (fun W v (h : TextsAt W v (Lr.map bs)) => refList_any h (by omega) (fun x hx => by have := rl x hx; omega))
    generalize bs (refListL Lr) = G at *
    clear HU la lb lc ra rl rn hb9 hs
    generalize bs P = PS at *
    generalize bs Q = QS at *
    generalize bs R = RS at *
    generalize bs s = SS at *
    go_enter Tryz.func22, Tryz.ntmps22
    go_wp2_with (first
      | (go_at_call 33; with_reducible refine (HC.out _ _ hT4).mono ?_; rintro e w5 ⟨rfl, b5⟩)
      | (go_at_call 50; with_reducible refine (HRn.out _ hb3).mono ?_; rintro e w4 ⟨ui, ut, rfl, hI4, hT4, b4⟩)
      | (go_at_call 20; with_reducible refine (HPc.out _ hb2).mono ?_; rintro e w3 ⟨rfl, b3⟩; have hb3 := (hb2).trans (b3.mono (hb2).size); have hM3 := Holds.moves hM2 (Moves.ofBelow (S := nobody) b3) (fun h => h); have hX3 := Holds.moves hX2 (Moves.ofBelow (S := nobody) b3) (fun h => h); have m30 := hM3.cell 0; have m31 := hM3.cell 1; have x30 := hX3.cell 0; have x31 := hX3.cell 1; have x32 := hX3.cell 2; have x33 := hX3.cell 3; have x34 := hX3.cell 4)
      | (go_at_call 20; with_reducible refine (HPb.out _ hb1).mono ?_; rintro e w2 ⟨rfl, b2⟩; have hb2 := (hb1).trans (b2.mono (hb1).size); have hM2 := Holds.moves hM1 (Moves.ofBelow (S := nobody) b2) (fun h => h); have hX2 := Holds.moves hX1 (Moves.ofBelow (S := nobody) b2) (fun h => h); have m20 := hM2.cell 0; have m21 := hM2.cell 1; have x20 := hX2.cell 0; have x21 := hX2.cell 1; have x22 := hX2.cell 2; have x23 := hX2.cell 3; have x24 := hX2.cell 4)
      | (go_at_call 20; with_reducible refine (HPa.out _ HB1).mono ?_; rintro e w1 ⟨rfl, b1⟩; have hb1 := (HB1).trans (b1.mono (HB1).size); have hM1 := Holds.moves HM.out (Moves.ofBelow (S := nobody) b1) (fun h => h); have hX1 := Holds.moves HX.out (Moves.ofBelow (S := nobody) b1) (fun h => h); have m10 := hM1.cell 0; have m11 := hM1.cell 1; have x10 := hX1.cell 0; have x11 := hX1.cell 1; have x12 := hX1.cell 2; have x13 := hX1.cell 3; have x14 := hX1.cell 4))
    go_ret
    exact ⟨by rw [HE.out]; rfl, (hb3.trans (b4.mono hb3.size)).trans (b5.mono (hb3.trans (b4.mono hb3.size)).size)⟩
  have HE : Hid (bs T = ⟨#[]⟩) := by show _ = _; rw [HU.out]; simp [k1, k2, k3, k4, k5, k6, k7, k8, k9, k10]; rfl
  have e1 : (K == 1) = false := by rw [beq_eq_false_iff_ne]; exact k1
  have e2 : (K == 2) = false := by rw [beq_eq_false_iff_ne]; exact k2
  have e3 : (K == 3) = false := by rw [beq_eq_false_iff_ne]; exact k3
  have e4 : (K == 4) = false := by rw [beq_eq_false_iff_ne]; exact k4
  have e5 : (K == 5) = false := by rw [beq_eq_false_iff_ne]; exact k5
  have e6 : (K == 6) = false := by rw [beq_eq_false_iff_ne]; exact k6
  have e7 : (K == 7) = false := by rw [beq_eq_false_iff_ne]; exact k7
  have e8 : (K == 8) = false := by rw [beq_eq_false_iff_ne]; exact k8
  have e9 : (K == 9) = false := by rw [beq_eq_false_iff_ne]; exact k9
  have e10 : (K == 10) = false := by rw [beq_eq_false_iff_ne]; exact k10
  clear HU la lb lc ra rl rn hb9 hs k1 k2 k3 k4 k5 k6 k7 k8 k9 k10
  generalize bs P = PS at *
  generalize bs Q = QS at *
  generalize bs R = RS at *
  generalize bs s = SS at *
  go_enter Tryz.func22, Tryz.ntmps22
  go_wp2_with (first
    | (go_at_call 20; with_reducible refine (HPc.out _ hb2).mono ?_; rintro e w3 ⟨rfl, b3⟩; have hb3 := (hb2).trans (b3.mono (hb2).size); have hM3 := Holds.moves hM2 (Moves.ofBelow (S := nobody) b3) (fun h => h); have hX3 := Holds.moves hX2 (Moves.ofBelow (S := nobody) b3) (fun h => h); have m30 := hM3.cell 0; have m31 := hM3.cell 1; have x30 := hX3.cell 0; have x31 := hX3.cell 1; have x32 := hX3.cell 2; have x33 := hX3.cell 3; have x34 := hX3.cell 4)
    | (go_at_call 20; with_reducible refine (HPb.out _ hb1).mono ?_; rintro e w2 ⟨rfl, b2⟩; have hb2 := (hb1).trans (b2.mono (hb1).size); have hM2 := Holds.moves hM1 (Moves.ofBelow (S := nobody) b2) (fun h => h); have hX2 := Holds.moves hX1 (Moves.ofBelow (S := nobody) b2) (fun h => h); have m20 := hM2.cell 0; have m21 := hM2.cell 1; have x20 := hX2.cell 0; have x21 := hX2.cell 1; have x22 := hX2.cell 2; have x23 := hX2.cell 3; have x24 := hX2.cell 4)
    | (go_at_call 20; with_reducible refine (HPa.out _ HB1).mono ?_; rintro e w1 ⟨rfl, b1⟩; have hb1 := (HB1).trans (b1.mono (HB1).size); have hM1 := Holds.moves HM.out (Moves.ofBelow (S := nobody) b1) (fun h => h); have hX1 := Holds.moves HX.out (Moves.ofBelow (S := nobody) b1) (fun h => h); have m10 := hM1.cell 0; have m11 := hM1.cell 1; have x10 := hX1.cell 0; have x11 := hX1.cell 1; have x12 := hX1.cell 2; have x13 := hX1.cell 3; have x14 := hX1.cell 4))
  go_ret
  exact ⟨by rw [HE.out]; rfl, hb3⟩
end Go.Proofs.YtobhpclemmhpoaaGreatDoor
