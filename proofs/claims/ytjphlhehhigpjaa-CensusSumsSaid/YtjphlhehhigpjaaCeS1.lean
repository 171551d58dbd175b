/- Layer 37: census.add, census.Sum. -/
import Derived.Test.YtjphlhehhigpjaaCe2
import Derived.Test.YtjphlhehhigpjaaCe4
namespace Go.Proofs.Ytjphlhehhigpjaa
open Go.RowKit

def addC (c d : Nat → Int) (lo hi : Nat) : Nat → Int := fun i => if lo ≤ i ∧ i < hi then c i + d i else c i
/-- One block alone may have changed. -/
def OneB (b : Nat) : Nat → Prop := fun i => i = b
set_option maxHeartbeats 2000000 in
set_option maxRecDepth 100000 in
theorem cnAdd_any {w : World} {b1 b2 off m : Nat} {c d : Nat → Int} (h1 : Holds w b1 29 (cenRow c)) (h2 : Holds w b2 29 (cenRow d)) (hne : b1 ≠ b2) (hm : off + m ≤ 28)
    (hc : ∀ i, off ≤ i → i < off + m → -1099511627776 ≤ c i ∧ c i ≤ 1099511627776) (hd : ∀ i, i < 30 → -1099511627776 ≤ d i ∧ d i ≤ 1099511627776) :
    Calls Try.prog 29 #[.slice (some ⟨b1, off, none⟩) m m, .slice (some ⟨b2, off, none⟩) m m] w fun e w' => e = .returned (.tuple #[]) ∧ Moves (OneB b1) w w' ∧ Holds w' b1 29 (cenRow (addC c d off (off + m))) ∧ Holds w' b2 29 (cenRow d) := by
  have HBc := Lib.hid hc
  have HBd := Lib.hid hd
  have HN : Hid (∀ k, k < m → cenRow (addC c d off (off + (k + 1))) = (cenRow (addC c d off (off + k))).setIfInBounds (off + k) (.int .i64 (c (off + k) + d (off + k)))) := fun k hk => by
    rw [cenRow_set _ (by omega)]
    refine cenRow_congr fun i hi => ?_
    show (if off ≤ i ∧ i < off + (k + 1) then c i + d i else c i) = if i = off + k then c (off + k) + d (off + k) else (if off ≤ i ∧ i < off + k then c i + d i else c i)
    by_cases e : i = off + k
    · subst e; rw [if_pos (by omega), if_pos rfl]
    · rw [if_neg e]
      by_cases h : off ≤ i ∧ i < off + k
      · rw [if_pos h, if_pos (by omega)]
      · rw [if_neg h, if_neg (by omega)]
  have HC : Hid (∀ k, k < m → (cenRow (addC c d off (off + k)))[off + k]? = some (.int .i64 (c (off + k))) ∧ (cenRow d)[off + k]? = some (.int .i64 (d (off + k)))) := fun k hk => by
    refine ⟨?_, cenRow_get d (by omega)⟩
    rw [cenRow_get _ (by omega)]
    show some (Value.int .i64 (if off ≤ off + k ∧ off + k < off + k then _ else _)) = _
    rw [if_neg (by omega)]
  have HI : Hid (cenRow (addC c d off (off + 0)) = cenRow c) := by
    show _ = _
    refine cenRow_congr fun i hi => ?_
    show (if off ≤ i ∧ i < off + 0 then c i + d i else c i) = c i
    rw [if_neg (by omega)]
  have H0 : Hid (Moves (OneB b1) w w) := Moves.refl _ _
  have Ha := Lib.hid h1
  rw [← HI.out] at Ha
  have Hb := Lib.hid h2
  clear hc hd h1 h2 HI
  go_enter Try.func29, Try.ntmps29
  go_wp2_with fail
  go_loopw [8] (fun i wr => ∃ k : Nat, k ≤ m ∧ i = .int .i64 k ∧ Hid (Moves (OneB b1) w wr) ∧ Hid (Holds wr b1 29 (cenRow (addC c d off (off + k)))) ∧ Hid (Holds wr b2 29 (cenRow d))) (fun i _ => m - (intOf i).toNat)
  case atStart => exact ⟨0, Nat.zero_le _, rfl, H0, Ha, Hb⟩
  case round =>
    obtain ⟨k, hk, rfl, HM, H1, H2⟩ := hrel
    clear H0 Ha Hb
    by_cases hlt : k < m
    · have hkm : (k : Int) < (m : Int) := by omega
      have x1 := (H1.out.cell (off + k)).trans (HC.out k hlt).1
      have x2 := (H2.out.cell (off + k)).trans (HC.out k hlt).2
      have z1 := H1.out.frozen (off + k)
      have bc := HBc.out (off + k) (by omega) (by omega)
      have bd := HBd.out (off + k) (by omega)
      have HG : Hid (Moves (OneB b1) w (wr.setCell ⟨b1, off + k, none⟩ (.int .i64 (c (off + k) + d (off + k)))) ∧ Holds (wr.setCell ⟨b1, off + k, none⟩ (.int .i64 (c (off + k) + d (off + k)))) b1 29 (cenRow (addC c d off (off + (k + 1)))) ∧ Holds (wr.setCell ⟨b1, off + k, none⟩ (.int .i64 (c (off + k) + d (off + k)))) b2 29 (cenRow d)) := by
        refine Lib.hid ⟨HM.out.setCell (p := ⟨b1, off + k, none⟩) (.inl rfl) _, ?_, ?_⟩
        · rw [HN.out k hlt]
          exact H1.out.set _ _
        · exact (Below.heap_setCell wr ⟨b1, off + k, none⟩ _ b2 (fun e => hne e.symm)).trans H2.out
      clear HN HC HM H1 H2 HBc HBd
      generalize c (off + k) = x at *
      generalize d (off + k) = y at *
      have hw : IntKind.i64.wrap (x + y) = x + y := IntWalk.i64_in _ ⟨by omega, by omega⟩
      go_wp2_with fail
      go_roundw
      case rel => exact ⟨k + 1, by omega, by go_num, Lib.hid HG.out.1, Lib.hid HG.out.2.1, Lib.hid HG.out.2.2⟩
      case measure => simp [intOf]; omega
    · have hkl : k = m := by omega
      subst hkl
      clear hlt HN HC
      go_wp2_with fail
      go_end0
      exact ⟨rfl, HM.out, H1.out, H2.out⟩
/-- While a sum is made: its two terms, the result's place. -/
structure SumSt (w : World) (Z : Array Value) (d : Nat → Int) (W : World) (c : Nat → Int) : Prop where
  below : Below w.heap.size w W
  one : Holds W w.heap.size 29 (cenRow c)
  two : Holds W (w.heap.size + 1) 29 (cenRow d)
  res : Holds W (w.heap.size + 2) 29 Z
section
variable {w W : World} {Z : Array Value} {c d : Nat → Int}
theorem SumSt.drew (h : SumSt w Z d W c) : SumSt w Z d W.drew c := ⟨h.below.drew, h.one, h.two, h.res⟩
theorem SumSt.moves {W' : World} {c' : Nat → Int} (h : SumSt w Z d W c) (hm : Moves (OneB w.heap.size) W W') (h1 : Holds W' w.heap.size 29 (cenRow c')) : SumSt w Z d W' c' :=
  ⟨h.below.trans (hm.below h.below.size (fun i hi => by have e : i = w.heap.size := hi; omega)), h1, (hm.block _ h.two.lt (fun e => by have e : w.heap.size + 1 = w.heap.size := e; omega)).trans h.two, (hm.block _ h.res.lt (fun e => by have e : w.heap.size + 2 = w.heap.size := e; omega)).trans h.res⟩
theorem SumSt.set (h : SumSt w Z d W c) {i : Nat} (hi : i < 30) (x : Int) : SumSt w Z d (W.setCell ⟨w.heap.size, i, none⟩ (.int .i64 x)) (fun j => if j = i then x else c j) := by
  refine h.moves ((Moves.refl (OneB w.heap.size) W).setCell (p := ⟨w.heap.size, i, none⟩) (.inl rfl) _) ?_
  have := h.one.set i (.int .i64 x)
  rw [cenRow_set c hi] at this
  exact this
end
set_option maxHeartbeats 8000000 in
set_option maxRecDepth 100000 in
theorem cnSum_any (w : World) (c d : Nat → Int) (hc : ∀ i, i < 30 → -1099511627776 ≤ c i ∧ c i ≤ 1099511627776) (hd : ∀ i, i < 30 → -1099511627776 ≤ d i ∧ d i ≤ 1099511627776) :
    Calls Try.prog 13 #[.agg (cenRow c), .agg (cenRow d)] w fun e w' => e = .returned (.agg (cenRow (fun i => c i + d i))) ∧ Below w.heap.size w w' := by
  have HAd : Hid (∀ (W : World) (Z : Array Value) (c' : Nat → Int) (off m : Nat), off + m ≤ 28 → (∀ i, off ≤ i → i < off + m → -1099511627776 ≤ c' i ∧ c' i ≤ 1099511627776) → SumSt w Z d W c' → Calls Try.prog 29 #[.slice (some ⟨w.heap.size, off, none⟩) m m, .slice (some ⟨w.heap.size + 1, off, none⟩) m m] W fun e w' => e = .returned (.tuple #[]) ∧ SumSt w Z d w' (addC c' d off (off + m))) := fun W Z c' off m hm hb hs =>
    (cnAdd_any hs.one hs.two (by omega) hm hb hd).mono fun e w' ⟨h1, h2, h3, _⟩ => ⟨h1, hs.moves h2 h3⟩
  have HRd : Hid (∀ (W : World) (Z : Array Value) (c' : Nat → Int), SumSt w Z d W c' → ∀ i, i < 30 → W.cell? ⟨w.heap.size, i, none⟩ = some (.int .i64 (c' i)) ∧ W.frozen? ⟨w.heap.size, i, none⟩ = false ∧ W.cell? ⟨w.heap.size + 1, i, none⟩ = some (.int .i64 (d i))) := fun W Z c' hs i hi => ⟨(hs.one.cell i).trans (cenRow_get c' hi), hs.one.frozen i, (hs.two.cell i).trans (cenRow_get d hi)⟩
  have HSet : Hid (∀ (W : World) (Z : Array Value) (c' : Nat → Int) (i : Nat), i < 30 → SumSt w Z d W c' → ∀ x, SumSt w Z d (W.setCell ⟨w.heap.size, i, none⟩ (.int .i64 x)) (fun j => if j = i then x else c' j)) := fun W Z c' i hi hs x => hs.set hi x
  have b28 := hc 28 (by decide)
  have b29 := hc 29 (by decide)
  have e28 := hd 28 (by decide)
  have e29 := hd 29 (by decide)
  have hB1 : ∀ i, i < 30 → -1099511627776 ≤ c i ∧ c i ≤ 1099511627776 := hc
  have HSz : Hid ((Try.prog.info? 29).map (·.size) = some (cenRow (fun i => c i + d i)).size ∧ (cenRow (fun i => c i + d i)).size = 30 ∧ (cenRow (fun i => c i + d i)).all (·.oneCell') = true) := ⟨sizeCensus, rfl, cenRow_one _⟩
  have HEnd : Hid (∀ c' : Nat → Int, (∀ i, i < 30 → c' i = c i + d i) → cenRow c' = cenRow (fun i => c i + d i)) := fun c' h => cenRow_congr h
  have HS0 : Hid (∀ Z : Array Value, SumSt w Z d (((w.alloc (.cells (cenRow c) 29)).alloc (.cells (cenRow d) 29)).alloc (.cells Z 29)) c) := fun Z => by
    have z1 : (w.alloc (.cells (cenRow c) 29)).heap.size = w.heap.size + 1 := by simp
    have z2 : ((w.alloc (.cells (cenRow c) 29)).alloc (.cells (cenRow d) 29)).heap.size = w.heap.size + 2 := by simp
    refine ⟨(((Below.refl _ _).alloc (Nat.le_refl _) _).alloc (by simp only [World.size_alloc]; omega) _).alloc (by simp only [World.size_alloc]; omega) _, ?_, ?_, ?_⟩
    · exact (Below.heap_alloc _ _ _ (by simp only [World.size_alloc]; omega)).trans ((Below.heap_alloc _ _ _ (by simp only [World.size_alloc]; omega)).trans (Holds.new w 29 _))
    · refine (Below.heap_alloc _ _ _ (by simp only [World.size_alloc]; omega)).trans ?_
      have := Holds.new (w.alloc (.cells (cenRow c) 29)) 29 (cenRow d)
      rw [z1] at this
      exact this
    · have := Holds.new ((w.alloc (.cells (cenRow c) 29)).alloc (.cells (cenRow d) 29)) 29 Z
      rw [z2] at this
      exact this
  have G1 : Hid (∀ i, 8 ≤ i → i < 24 → -1099511627776 ≤ addC c d 0 8 i ∧ addC c d 0 8 i ≤ 1099511627776) := fun i h1 h2 => by
    unfold addC; rw [if_neg (by omega)]; exact hc i (by omega)
  have G2 : Hid (∀ i, 24 ≤ i → i < 28 → -1099511627776 ≤ addC (addC c d 0 8) d 8 24 i ∧ addC (addC c d 0 8) d 8 24 i ≤ 1099511627776) := fun i h1 h2 => by
    unfold addC; rw [if_neg (by omega), if_neg (by omega)]; exact hc i (by omega)
  have G3 : Hid (addC (addC (addC c d 0 8) d 8 24) d 24 28 28 = c 28 ∧ addC (addC (addC c d 0 8) d 8 24) d 24 28 29 = c 29) := by
    refine ⟨?_, ?_⟩ <;> (unfold addC; rw [if_neg (by omega), if_neg (by omega), if_neg (by omega)])
  have G4 : Hid (∀ i, i < 30 → (fun j => if j = 29 then c 29 + d 29 else (if j = 28 then c 28 + d 28 else addC (addC (addC c d 0 8) d 8 24) d 24 28 j)) i = c i + d i) := fun i hi => by
    show (if i = 29 then c 29 + d 29 else (if i = 28 then c 28 + d 28 else addC (addC (addC c d 0 8) d 8 24) d 24 28 i)) = _
    by_cases h1 : i = 29
    · rw [if_pos h1, h1]
    · rw [if_neg h1]
      by_cases h2 : i = 28
      · rw [if_pos h2, h2]
      · rw [if_neg h2]
        unfold addC
        by_cases h3 : i < 8
        · rw [if_neg (by omega), if_neg (by omega), if_pos (by omega)]
        · by_cases h4 : i < 24
          · rw [if_neg (by omega), if_pos (by omega)]
            rw [if_neg (by omega)]
          · rw [if_pos (by omega), if_neg (by omega), if_neg (by omega)]
  have HC1 : Hid (∀ (W : World) (Z : Array Value), SumSt w Z d W c → Calls Try.prog 29 #[.slice (some ⟨w.heap.size, 0, none⟩) 8 8, .slice (some ⟨w.heap.size + 1, 0, none⟩) 8 8] W fun e w' => e = .returned (.tuple #[]) ∧ SumSt w Z d w' (addC c d 0 8)) := fun W Z h => HAd.out W Z c 0 8 (by decide) (fun i _ h2 => hc i (by omega)) h
  have HC2 : Hid (∀ (W : World) (Z : Array Value), SumSt w Z d W (addC c d 0 8) → Calls Try.prog 29 #[.slice (some ⟨w.heap.size, 8, none⟩) 16 16, .slice (some ⟨w.heap.size + 1, 8, none⟩) 16 16] W fun e w' => e = .returned (.tuple #[]) ∧ SumSt w Z d w' (addC (addC c d 0 8) d 8 24)) := fun W Z h => HAd.out W Z _ 8 16 (by decide) G1.out h
  have HC3 : Hid (∀ (W : World) (Z : Array Value), SumSt w Z d W (addC (addC c d 0 8) d 8 24) → Calls Try.prog 29 #[.slice (some ⟨w.heap.size, 24, none⟩) 4 4, .slice (some ⟨w.heap.size + 1, 24, none⟩) 4 4] W fun e w' => e = .returned (.tuple #[]) ∧ SumSt w Z d w' (addC (addC (addC c d 0 8) d 8 24) d 24 28)) := fun W Z h => HAd.out W Z _ 24 4 (by decide) G2.out h
  clear hc hd hB1 HAd G1 G2
  generalize addC (addC (addC c d 0 8) d 8 24) d 24 28 = c3 at *
  generalize addC (addC c d 0 8) d 8 24 = c2 at *
  generalize addC c d 0 8 = c1 at *
  have HRR : Hid (∀ W Z, SumSt w Z d W (fun j => if j = 29 then c 29 + d 29 else (if j = 28 then c 28 + d 28 else c3 j)) → Holds W w.heap.size 29 (cenRow (fun i => c i + d i)) ∧ Holds W (w.heap.size + 2) 29 Z ∧ Below w.heap.size w W) := fun W Z h => ⟨by have := h.one; rw [HEnd.out _ G4.out] at this; exact this, h.res, h.below⟩
  clear HEnd G4
  generalize cenRow (fun i => c i + d i) = RR at *
  generalize hRc : cenRow c = Rc at *
  have HRc := Lib.hid hRc
  clear hRc
  generalize hRd2 : cenRow d = Rd at *
  have HRd2 := Lib.hid hRd2
  clear hRd2
  go_enter Try.func13, Try.ntmps13
  go_upto_region 1 with fail
  have HA := Lib.hid (HS0.out (#[.int .i64 0, .int .i64 0, .int .i64 0, .int .i64 0, .int .i64 0, .int .i64 0, .int .i64 0, .int .i64 0, .int .i64 0, .int .i64 0, .int .i64 0, .int .i64 0, .int .i64 0, .int .i64 0, .int .i64 0, .int .i64 0, .int .i64 0, .int .i64 0, .int .i64 0, .int .i64 0, .int .i64 0, .int .i64 0, .int .i64 0, .int .i64 0, .int .i64 0, .int .i64 0, .int .i64 0, .int .i64 0, .int .i64 0, .int .i64 0] : Array Value))
  obtain ⟨Z, hZ⟩ : ∃ Z : Array Value, Hid (Z = (#[.int .i64 0, .int .i64 0, .int .i64 0, .int .i64 0, .int .i64 0, .int .i64 0, .int .i64 0, .int .i64 0, .int .i64 0, .int .i64 0, .int .i64 0, .int .i64 0, .int .i64 0, .int .i64 0, .int .i64 0, .int .i64 0, .int .i64 0, .int .i64 0, .int .i64 0, .int .i64 0, .int .i64 0, .int .i64 0, .int .i64 0, .int .i64 0, .int .i64 0, .int .i64 0, .int .i64 0, .int .i64 0, .int .i64 0, .int .i64 0] : Array Value)) := ⟨_, Lib.hid rfl⟩
  have hZs : Hid (Z.size = 30) := by show Z.size = 30; rw [hZ.out]; rfl
  rw [← hZ.out] at HA
  rw [← hZ.out]
  clear hZ HS0
  generalize ((w.alloc (.cells Rc 29)).alloc (.cells Rd 29)).alloc (.cells Z 29) = W0 at *
  obtain ⟨Sp, hSp⟩ : ∃ Sp : World → Prop, Hid (∀ w', Sp w' ↔ (Below w.heap.size w w')) := ⟨_, Lib.hid fun _ => Iff.rfl⟩
  refine wp_region_held_gen Sp (by kernel_rfl) ((hSp.out _).2 HA.out.drew.below) ?_
  have hHeld : Sp _ := (hSp.out (World.drew _)).2 HA.out.drew.below
  intro O hO
  refine held_read hO (i := 0) rfl rfl (by kernel_rfl) (fun _ _ _ _ h => h) ?_ hHeld ?_ ?_
  rotate_left 1
  · (intro w hSw; have hSw := (hSp.out _).1 hSw; go_simp; (try with_reducible rfl))
  try simp only [Act.put, List.setIfInBounds_toArray, List.set_cons_zero, List.set_cons_succ]
  refine held_read hO (i := 1) rfl rfl (by kernel_rfl) (fun _ _ _ _ h => h) ?_ hHeld ?_ ?_
  rotate_left 1
  · (intro w hSw; have hSw := (hSp.out _).1 hSw; go_simp; (try with_reducible rfl))
  try simp only [Act.put, List.setIfInBounds_toArray, List.set_cons_zero, List.set_cons_succ]
  refine held_read hO (i := 2) rfl rfl (by kernel_rfl) (fun _ _ _ _ h => h) ?_ hHeld ?_ ?_
  rotate_left 1
  · (intro w hSw; have hSw := (hSp.out _).1 hSw; go_simp; (try with_reducible rfl))
  try simp only [Act.put, List.setIfInBounds_toArray, List.set_cons_zero, List.set_cons_succ]
  refine held_read hO (i := 3) rfl rfl (by kernel_rfl) (fun _ _ _ _ h => h) ?_ hHeld ?_ ?_
  rotate_left 1
  · (intro w hSw; have hSw := (hSp.out _).1 hSw; go_simp; (try with_reducible rfl))
  try simp only [Act.put, List.setIfInBounds_toArray, List.set_cons_zero, List.set_cons_succ]
  refine held_step hO (i := 4) rfl rfl (by kernel_rfl) (fun K hK => ?_)
  go_simp
  go_at_call 29
  with_reducible refine (HC1.out _ _ HA.out.drew).mono ?_
  rintro e w1 ⟨rfl, s_⟩
  have Hw1 := Lib.hid s_
  clear s_
  go_wp2_with fail
  clear hHeld
  have hHeld : Sp _ := (hSp.out _).2 Hw1.out.below
  refine hK.out _ _ hHeld ?_
  clear hK K
  try simp only [Act.put, List.setIfInBounds_toArray, List.set_cons_zero, List.set_cons_succ]
  refine held_done hO (by kernel_rfl) ?_
  clear hO O
  clear hHeld hSp Sp HC1 HA
  go_upto_region 2 with fail
  obtain ⟨Sp, hSp⟩ : ∃ Sp : World → Prop, Hid (∀ w', Sp w' ↔ (Below w.heap.size w w')) := ⟨_, Lib.hid fun _ => Iff.rfl⟩
  refine wp_region_held_gen Sp (by kernel_rfl) ((hSp.out _).2 Hw1.out.drew.below) ?_
  have hHeld : Sp _ := (hSp.out (World.drew _)).2 Hw1.out.drew.below
  intro O hO
  refine held_read hO (i := 0) rfl rfl (by kernel_rfl) (fun _ _ _ _ h => h) ?_ hHeld ?_ ?_
  rotate_left 1
  · (intro w hSw; have hSw := (hSp.out _).1 hSw; go_simp; (try with_reducible rfl))
  try simp only [Act.put, List.setIfInBounds_toArray, List.set_cons_zero, List.set_cons_succ]
  refine held_read hO (i := 1) rfl rfl (by kernel_rfl) (fun _ _ _ _ h => h) ?_ hHeld ?_ ?_
  rotate_left 1
  · (intro w hSw; have hSw := (hSp.out _).1 hSw; go_simp; (try with_reducible rfl))
  try simp only [Act.put, List.setIfInBounds_toArray, List.set_cons_zero, List.set_cons_succ]
  refine held_read hO (i := 2) rfl rfl (by kernel_rfl) (fun _ _ _ _ h => h) ?_ hHeld ?_ ?_
  rotate_left 1
  · (intro w hSw; have hSw := (hSp.out _).1 hSw; go_simp; (try with_reducible rfl))
  try simp only [Act.put, List.setIfInBounds_toArray, List.set_cons_zero, List.set_cons_succ]
  refine held_read hO (i := 3) rfl rfl (by kernel_rfl) (fun _ _ _ _ h => h) ?_ hHeld ?_ ?_
  rotate_left 1
  · (intro w hSw; have hSw := (hSp.out _).1 hSw; go_simp; (try with_reducible rfl))
  try simp only [Act.put, List.setIfInBounds_toArray, List.set_cons_zero, List.set_cons_succ]
  refine held_step hO (i := 4) rfl rfl (by kernel_rfl) (fun K hK => ?_)
  go_simp
  go_at_call 29
  with_reducible refine (HC2.out _ _ Hw1.out.drew).mono ?_
  rintro e w2 ⟨rfl, s_⟩
  have Hw2 := Lib.hid s_
  clear s_
  go_wp2_with fail
  clear hHeld
  have hHeld : Sp _ := (hSp.out _).2 Hw2.out.below
  refine hK.out _ _ hHeld ?_
  clear hK K
  try simp only [Act.put, List.setIfInBounds_toArray, List.set_cons_zero, List.set_cons_succ]
  refine held_done hO (by kernel_rfl) ?_
  clear hO O
  clear hHeld hSp Sp HC2 Hw1
  go_upto_region 3 with fail
  obtain ⟨Sp, hSp⟩ : ∃ Sp : World → Prop, Hid (∀ w', Sp w' ↔ (Below w.heap.size w w')) := ⟨_, Lib.hid fun _ => Iff.rfl⟩
  refine wp_region_held_gen Sp (by kernel_rfl) ((hSp.out _).2 Hw2.out.drew.below) ?_
  have hHeld : Sp _ := (hSp.out (World.drew _)).2 Hw2.out.drew.below
  intro O hO
  refine held_read hO (i := 0) rfl rfl (by kernel_rfl) (fun _ _ _ _ h => h) ?_ hHeld ?_ ?_
  rotate_left 1
  · (intro w hSw; have hSw := (hSp.out _).1 hSw; go_simp; (try with_reducible rfl))
  try simp only [Act.put, List.setIfInBounds_toArray, List.set_cons_zero, List.set_cons_succ]
  refine held_read hO (i := 1) rfl rfl (by kernel_rfl) (fun _ _ _ _ h => h) ?_ hHeld ?_ ?_
  rotate_left 1
  · (intro w hSw; have hSw := (hSp.out _).1 hSw; go_simp; (try with_reducible rfl))
  try simp only [Act.put, List.setIfInBounds_toArray, List.set_cons_zero, List.set_cons_succ]
  refine held_read hO (i := 2) rfl rfl (by kernel_rfl) (fun _ _ _ _ h => h) ?_ hHeld ?_ ?_
  rotate_left 1
  · (intro w hSw; have hSw := (hSp.out _).1 hSw; go_simp; (try with_reducible rfl))
  try simp only [Act.put, List.setIfInBounds_toArray, List.set_cons_zero, List.set_cons_succ]
  refine held_read hO (i := 3) rfl rfl (by kernel_rfl) (fun _ _ _ _ h => h) ?_ hHeld ?_ ?_
  rotate_left 1
  · (intro w hSw; have hSw := (hSp.out _).1 hSw; go_simp; (try with_reducible rfl))
  try simp only [Act.put, List.setIfInBounds_toArray, List.set_cons_zero, List.set_cons_succ]
  refine held_step hO (i := 4) rfl rfl (by kernel_rfl) (fun K hK => ?_)
  go_simp
  go_at_call 29
  with_reducible refine (HC3.out _ _ Hw2.out.drew).mono ?_
  rintro e w3 ⟨rfl, s_⟩
  have Hw3 := Lib.hid s_
  clear s_
  go_wp2_with fail
  clear hHeld
  have hHeld : Sp _ := (hSp.out _).2 Hw3.out.below
  refine hK.out _ _ hHeld ?_
  clear hK K
  try simp only [Act.put, List.setIfInBounds_toArray, List.set_cons_zero, List.set_cons_succ]
  refine held_done hO (by kernel_rfl) ?_
  clear hO O
  clear hHeld hSp Sp HC3 Hw2
  obtain ⟨x28, f28, y28⟩ := HRd.out _ _ _ Hw3.out 28 (by decide)
  rw [G3.out.1] at x28
  have hw28 : IntKind.i64.wrap (c 28 + d 28) = c 28 + d 28 := IntWalk.i64_in _ ⟨by omega, by omega⟩
  go_upto_region 5 with fail
  have HW4 := Lib.hid (HSet.out _ _ _ 28 (by decide) Hw3.out (c 28 + d 28))
  clear x28 f28 y28 Hw3
  generalize w3.setCell ⟨w.heap.size, 28, none⟩ (.int .i64 (c 28 + d 28)) = W4 at *
  obtain ⟨x29a, f29, y29⟩ := HRd.out _ _ _ HW4.out 29 (by decide)
  have x29 : W4.cell? ⟨w.heap.size, 29, none⟩ = some (.int .i64 (c 29)) := x29a.trans (by rw [if_neg (by decide), G3.out.2])
  clear x29a
  have hw29 : IntKind.i64.wrap (c 29 + d 29) = c 29 + d 29 := IntWalk.i64_in _ ⟨by omega, by omega⟩
  go_upto_region 6 with fail
  have HW5 := Lib.hid (HRR.out _ _ (HSet.out _ _ _ 29 (by decide) HW4.out (c 29 + d 29)))
  clear x29 f29 y29 HW4 HRR HSet HRd G3
  generalize W4.setCell ⟨w.heap.size, 29, none⟩ (.int .i64 (c 29 + d 29)) = W5 at *
  have HD2 : Hid (Below w.heap.size w (W5.setRow (w.heap.size + 2) RR)) := below_setRow HW5.out.2.2 (by omega) RR
  go_wp2_with (first
    | (refine wpList_load_row rfl 29 _ rfl w.heap.size rfl 29 RR (0, 0) _ HW5.out.1 Try.underlying29 rfl (by exact HSz.out.1) ?_)
    | (refine wpList_store_row rfl 29 _ _ rfl (w.heap.size + 2) RR rfl rfl 29 Z HW5.out.2.1 (by exact HSz.out.1) (by rw [hZs.out, HSz.out.2.1]) HSz.out.2.2 ?_))
  refine bodyPost_ret (results_cell_row rfl _ _ (w.heap.size + 2) 29 RR (0, 0) _ rfl (setRow_heap _ _ _ _ _ _ HW5.out.2.1) Try.underlying29 rfl (by exact HSz.out.1)) rfl ⟨rfl, HD2.out⟩
end Go.Proofs.Ytjphlhehhigpjaa
