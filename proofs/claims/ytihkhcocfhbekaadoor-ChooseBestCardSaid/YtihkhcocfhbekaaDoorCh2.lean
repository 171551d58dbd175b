/- Layer 17: Choose. -/
import Derived.Test.YtihkhcocfhbekaaDoorCh1
import Derived.Test.YtihkhcocfhbekaaDoorPfX
import Derived.Deep.RegionHeld3
import Derived.LoopTactic
namespace Go.Proofs.YtihkhcocfhbekaaDoor
open Go.RowKit

/-- What the two lists of a place have in common first. -/
def chAt (p q : Nat → List (List UInt8)) (k : Nat) : ByteArray × Bool := firstIn ((p k).map bs) ((q k).map bs)
/-- The first of eight places for which z is false; 8: none. -/
def badAt (z : Nat → Bool) : Nat := ((List.range 8).find? fun k => !z k).getD 8
theorem badAt_is {z : Nat → Bool} {j : Nat} (hj : j < 8) (h : ∀ k < j, z k = true) (hz : z j = false) : badAt z = j := by
  have : (List.range 8).find? (fun k => !z k) = some j := by
    rw [List.find?_range_eq_some]
    exact ⟨by simp [hz], by simpa using hj, fun k hk => by simp [h k hk]⟩
  rw [badAt, this]
  rfl
theorem badAt_none {z : Nat → Bool} (h : ∀ k < 8, z k = true) : badAt z = 8 := by
  have : (List.range 8).find? (fun k => !z k) = none := by
    rw [List.find?_eq_none]
    intro k hk
    simp [h k (by simpa using hk)]
  rw [badAt, this]
  rfl
theorem badAt_le (z : Nat → Bool) : badAt z ≤ 8 := by
  unfold badAt
  cases h : (List.range 8).find? fun k => !z k with
  | none => exact Nat.le_refl _
  | some j =>
    have := List.mem_of_find?_eq_some h
    simp only [List.mem_range] at this
    exact Nat.le_of_lt this
def chooseS : ByteArray := ⟨#[99, 104, 111, 111, 115, 101]⟩
/-- The names of the first k places, the others empty. -/
def upTo (f : Nat → ByteArray) (k : Nat) (j : Nat) : Value := .string (if j < k then f j else ⟨#[]⟩)
def upRow (f : Nat → ByteArray) (k : Nat) : Array Value := #[upTo f k 0, upTo f k 1, upTo f k 2, upTo f k 3, upTo f k 4, upTo f k 5, upTo f k 6, upTo f k 7]
theorem up_step (f : Nat → ByteArray) : ∀ k, k < 8 → (upRow f k).setIfInBounds k (.string (f k)) = upRow f (k + 1)
  | 0, _ => rfl
  | 1, _ => rfl
  | 2, _ => rfl
  | 3, _ => rfl
  | 4, _ => rfl
  | 5, _ => rfl
  | 6, _ => rfl
  | 7, _ => rfl
  | k + 8, h => absurd h (by omega)
theorem up_at (f : Nat → ByteArray) : ∀ k, k < 8 → (upRow f k)[k]? = some (.string ⟨#[]⟩)
  | 0, _ => rfl
  | 1, _ => rfl
  | 2, _ => rfl
  | 3, _ => rfl
  | 4, _ => rfl
  | 5, _ => rfl
  | 6, _ => rfl
  | 7, _ => rfl
  | k + 8, h => absurd h (by omega)
theorem ch_cell_same {w : World} {g i : Nat} {t : TypeId} {cs : Array Value} {v : Value} (h : Holds w g t cs) (hv : cs[i]? = some v) : w.setCell ⟨g, i, none⟩ v = w := by
  rw [setCell_eq_setRow w g i cs t (0, 0) v h]
  have e : cs.setIfInBounds i v = cs := by
    apply Array.ext
    · simp
    · intro j h1 h2
      rw [Array.getElem_setIfInBounds (by simpa using h1)]
      split
      · rename_i hij
        subst hij
        rw [Array.getElem?_eq_getElem h2] at hv
        exact (Option.some.inj hv).symm
      · rfl
  rw [e]
  exact setRow_self w g cs t (0, 0) h
theorem up_zero (f : Nat → ByteArray) : upRow f 0 = #[.string ⟨#[]⟩, .string ⟨#[]⟩, .string ⟨#[]⟩, .string ⟨#[]⟩, .string ⟨#[]⟩, .string ⟨#[]⟩, .string ⟨#[]⟩, .string ⟨#[]⟩] := rfl
theorem up_all (f : Nat → ByteArray) : Value.agg (upRow f 8) = agg8S f := rfl
theorem up_size (f : Nat → ByteArray) (k : Nat) : (upRow f k).size = 8 := rfl

set_option maxHeartbeats 4000000 in
set_option maxRecDepth 100000 in
theorem chChoose_any {w : World} {u v : Nat → Value} {p q : Nat → List (List UInt8)} (hT : Tab15 w) (h : ∀ k < 8, TextsAt w (u k) ((p k).map bs)) (h' : ∀ k < 8, TextsAt w (v k) ((q k).map bs)) (hl : ∀ k < 8, (p k).length ≤ 1000) (hl' : ∀ k < 8, (q k).length ≤ 1000) (hs : ∀ k < 8, ∀ x ∈ p k, x.length ≤ 1000) (hs' : ∀ k < 8, ∀ x ∈ q k, x.length ≤ 1000) :
    Calls Tryd.prog 12 #[agg8 u, agg8 v] w fun e w' => (badAt (fun k => (chAt p q k).2) = 8 → e = .returned (.tuple #[agg8S fun k => (chAt p q k).1, .nilIface])) ∧ (badAt (fun k => (chAt p q k).2) < 8 → ∃ t x, e = .returned (.tuple #[agg8S fun _ => ⟨#[]⟩, .iface t x]) ∧ ErrAt w' (.iface t x) [chooseS, bs (wordZ (badAt fun k => (chAt p q k).2))] (some 10)) ∧ Below w.heap.size w w' := by
  have hu := texts_sl h
  have hv := texts_sl h'
  obtain ⟨a0, n0, c0, e0⟩ := hu 0 (by omega)
  obtain ⟨a1, n1, c1, e1⟩ := hu 1 (by omega)
  obtain ⟨a2, n2, c2, e2⟩ := hu 2 (by omega)
  obtain ⟨a3, n3, c3, e3⟩ := hu 3 (by omega)
  obtain ⟨a4, n4, c4, e4⟩ := hu 4 (by omega)
  obtain ⟨a5, n5, c5, e5⟩ := hu 5 (by omega)
  obtain ⟨a6, n6, c6, e6⟩ := hu 6 (by omega)
  obtain ⟨a7, n7, c7, e7⟩ := hu 7 (by omega)
  obtain ⟨b0, m0, d0, f0⟩ := hv 0 (by omega)
  obtain ⟨b1, m1, d1, f1⟩ := hv 1 (by omega)
  obtain ⟨b2, m2, d2, f2⟩ := hv 2 (by omega)
  obtain ⟨b3, m3, d3, f3⟩ := hv 3 (by omega)
  obtain ⟨b4, m4, d4, f4⟩ := hv 4 (by omega)
  obtain ⟨b5, m5, d5, f5⟩ := hv 5 (by omega)
  obtain ⟨b6, m6, d6, f6⟩ := hv 6 (by omega)
  obtain ⟨b7, m7, d7, f7⟩ := hv 7 (by omega)
  have hU : agg8 u = .agg #[.slice a0 n0 c0, .slice a1 n1 c1, .slice a2 n2 c2, .slice a3 n3 c3, .slice a4 n4 c4, .slice a5 n5 c5, .slice a6 n6 c6, .slice a7 n7 c7] := by unfold agg8; rw [e0, e1, e2, e3, e4, e5, e6, e7]
  have hV : agg8 v = .agg #[.slice b0 m0 d0, .slice b1 m1 d1, .slice b2 m2 d2, .slice b3 m3 d3, .slice b4 m4 d4, .slice b5 m5 d5, .slice b6 m6 d6, .slice b7 m7 d7] := by unfold agg8; rw [f0, f1, f2, f3, f4, f5, f6, f7]
  have HLp : Hid (∀ W, Below w.heap.size w W → Calls Tryd.prog 40 #[.agg #[.slice a0 n0 c0, .slice a1 n1 c1, .slice a2 n2 c2, .slice a3 n3 c3, .slice a4 n4 c4, .slice a5 n5 c5, .slice a6 n6 c6, .slice a7 n7 c7]] W fun e w' => ∃ (b c : Nat) (u' : Nat → Value), e = .returned (.slice (some ⟨b, 0, none⟩) 8 c) ∧ b < w'.heap.size ∧ 8 ≤ c ∧ (∀ k < 8, w'.cell? ⟨b, k, none⟩ = some (u' k) ∧ TextsAt w' (u' k) ((p k).map bs) ∧ (p k ≠ [] → ∃ g, (u' k).ownBlock = some g ∧ W.heap.size ≤ g)) ∧ W.heap.size ≤ b ∧ Below W.heap.size W w') := fun W hb => by
    rw [← hU]
    exact pfLists_new (fun k hk => (h k hk).below hb) hl
  have HLq : Hid (∀ W, Below w.heap.size w W → Calls Tryd.prog 40 #[.agg #[.slice b0 m0 d0, .slice b1 m1 d1, .slice b2 m2 d2, .slice b3 m3 d3, .slice b4 m4 d4, .slice b5 m5 d5, .slice b6 m6 d6, .slice b7 m7 d7]] W fun e w' => ∃ (b c : Nat) (u' : Nat → Value), e = .returned (.slice (some ⟨b, 0, none⟩) 8 c) ∧ b < w'.heap.size ∧ 8 ≤ c ∧ (∀ k < 8, w'.cell? ⟨b, k, none⟩ = some (u' k) ∧ TextsAt w' (u' k) ((q k).map bs) ∧ (q k ≠ [] → ∃ g, (u' k).ownBlock = some g ∧ W.heap.size ≤ g)) ∧ W.heap.size ≤ b ∧ Below W.heap.size W w') := fun W hb => by
    rw [← hV]
    exact pfLists_new (fun k hk => (h' k hk).below hb) hl'
  rw [hU, hV]
  clear hU hV e0 f0 e1 f1 e2 f2 e3 f3 e4 f4 e5 f5 e6 f6 e7 f7 hu hv h h'
  obtain ⟨N, hN⟩ : ∃ N, N = w.heap.size := ⟨_, rfl⟩
  obtain ⟨W0, hW0⟩ : ∃ W0, W0 = (((w.alloc (.cells #[.slice a0 n0 c0, .slice a1 n1 c1, .slice a2 n2 c2, .slice a3 n3 c3, .slice a4 n4 c4, .slice a5 n5 c5, .slice a6 n6 c6, .slice a7 n7 c7] 24)).alloc (.cells #[.slice b0 m0 d0, .slice b1 m1 d1, .slice b2 m2 d2, .slice b3 m3 d3, .slice b4 m4 d4, .slice b5 m5 d5, .slice b6 m6 d6, .slice b7 m7 d7] 24)).alloc (.cells #[.string ⟨#[]⟩, .string ⟨#[]⟩, .string ⟨#[]⟩, .string ⟨#[]⟩, .string ⟨#[]⟩, .string ⟨#[]⟩, .string ⟨#[]⟩, .string ⟨#[]⟩] 28)).alloc (.cells #[.string ⟨#[]⟩, .string ⟨#[]⟩, .string ⟨#[]⟩, .string ⟨#[]⟩, .string ⟨#[]⟩, .string ⟨#[]⟩, .string ⟨#[]⟩, .string ⟨#[]⟩] 73) := ⟨_, rfl⟩
  have hb0 : Below w.heap.size w W0 := by
    rw [hW0]
    exact ((((Below.refl _ _).alloc (Nat.le_refl _) _).alloc (by rw [World.size_alloc]; omega) _).alloc (by rw [World.size_alloc, World.size_alloc]; omega) _).alloc (by rw [World.size_alloc, World.size_alloc, World.size_alloc]; omega) _
  have hs0 : W0.heap.size = N + 1 + 1 + 1 + 1 := by rw [hW0, World.size_alloc, World.size_alloc, World.size_alloc, World.size_alloc, hN]
  have hA0 : Holds W0 N 24 #[.slice a0 n0 c0, .slice a1 n1 c1, .slice a2 n2 c2, .slice a3 n3 c3, .slice a4 n4 c4, .slice a5 n5 c5, .slice a6 n6 c6, .slice a7 n7 c7] := by
    rw [hW0, hN]
    exact (Holds.new w _ _).moves ((((Moves.refl nobody _).alloc _).alloc _).alloc _) (fun h => h)
  have hA1 : Holds W0 (N + 1) 24 #[.slice b0 m0 d0, .slice b1 m1 d1, .slice b2 m2 d2, .slice b3 m3 d3, .slice b4 m4 d4, .slice b5 m5 d5, .slice b6 m6 d6, .slice b7 m7 d7] := by
    have h := (Holds.new (w.alloc (.cells #[.slice a0 n0 c0, .slice a1 n1 c1, .slice a2 n2 c2, .slice a3 n3 c3, .slice a4 n4 c4, .slice a5 n5 c5, .slice a6 n6 c6, .slice a7 n7 c7] 24)) 24 #[.slice b0 m0 d0, .slice b1 m1 d1, .slice b2 m2 d2, .slice b3 m3 d3, .slice b4 m4 d4, .slice b5 m5 d5, .slice b6 m6 d6, .slice b7 m7 d7]).moves (((Moves.refl nobody _).alloc (.cells #[.string ⟨#[]⟩, .string ⟨#[]⟩, .string ⟨#[]⟩, .string ⟨#[]⟩, .string ⟨#[]⟩, .string ⟨#[]⟩, .string ⟨#[]⟩, .string ⟨#[]⟩] 28)).alloc (.cells #[.string ⟨#[]⟩, .string ⟨#[]⟩, .string ⟨#[]⟩, .string ⟨#[]⟩, .string ⟨#[]⟩, .string ⟨#[]⟩, .string ⟨#[]⟩, .string ⟨#[]⟩] 73)) (fun h => h)
    rw [World.size_alloc] at h
    rw [hW0, hN]
    exact h
  have hA2 : Holds W0 (N + 1 + 1) 28 #[.string ⟨#[]⟩, .string ⟨#[]⟩, .string ⟨#[]⟩, .string ⟨#[]⟩, .string ⟨#[]⟩, .string ⟨#[]⟩, .string ⟨#[]⟩, .string ⟨#[]⟩] := by
    have h := (Holds.new ((w.alloc (.cells #[.slice a0 n0 c0, .slice a1 n1 c1, .slice a2 n2 c2, .slice a3 n3 c3, .slice a4 n4 c4, .slice a5 n5 c5, .slice a6 n6 c6, .slice a7 n7 c7] 24)).alloc (.cells #[.slice b0 m0 d0, .slice b1 m1 d1, .slice b2 m2 d2, .slice b3 m3 d3, .slice b4 m4 d4, .slice b5 m5 d5, .slice b6 m6 d6, .slice b7 m7 d7] 24)) 28 #[.string ⟨#[]⟩, .string ⟨#[]⟩, .string ⟨#[]⟩, .string ⟨#[]⟩, .string ⟨#[]⟩, .string ⟨#[]⟩, .string ⟨#[]⟩, .string ⟨#[]⟩]).moves ((Moves.refl nobody _).alloc (.cells #[.string ⟨#[]⟩, .string ⟨#[]⟩, .string ⟨#[]⟩, .string ⟨#[]⟩, .string ⟨#[]⟩, .string ⟨#[]⟩, .string ⟨#[]⟩, .string ⟨#[]⟩] 73)) (fun h => h)
    rw [World.size_alloc, World.size_alloc] at h
    rw [hW0, hN]
    exact h
  have hA3 : Holds W0 (N + 1 + 1 + 1) 73 #[.string ⟨#[]⟩, .string ⟨#[]⟩, .string ⟨#[]⟩, .string ⟨#[]⟩, .string ⟨#[]⟩, .string ⟨#[]⟩, .string ⟨#[]⟩, .string ⟨#[]⟩] := by
    have h := Holds.new (((w.alloc (.cells #[.slice a0 n0 c0, .slice a1 n1 c1, .slice a2 n2 c2, .slice a3 n3 c3, .slice a4 n4 c4, .slice a5 n5 c5, .slice a6 n6 c6, .slice a7 n7 c7] 24)).alloc (.cells #[.slice b0 m0 d0, .slice b1 m1 d1, .slice b2 m2 d2, .slice b3 m3 d3, .slice b4 m4 d4, .slice b5 m5 d5, .slice b6 m6 d6, .slice b7 m7 d7] 24)).alloc (.cells #[.string ⟨#[]⟩, .string ⟨#[]⟩, .string ⟨#[]⟩, .string ⟨#[]⟩, .string ⟨#[]⟩, .string ⟨#[]⟩, .string ⟨#[]⟩, .string ⟨#[]⟩] 28)) 73 #[.string ⟨#[]⟩, .string ⟨#[]⟩, .string ⟨#[]⟩, .string ⟨#[]⟩, .string ⟨#[]⟩, .string ⟨#[]⟩, .string ⟨#[]⟩, .string ⟨#[]⟩]
    rw [World.size_alloc, World.size_alloc, World.size_alloc] at h
    rw [hW0, hN]
    exact h
  have HX : Hid (∀ {W : World} {b : Nat} {t : TypeId} {cs : Array Value}, Below W0.heap.size W0 W → Holds W0 b t cs → Holds W b t cs) := fun hb h => h.moves (Moves.ofBelow (S := nobody) hb) (fun h => h)
  have HB0 := Lib.hid hb0
  have HW0 := Lib.hid hW0.symm
  have HS0 := Lib.hid hs0
  have HA0 := Lib.hid hA0
  have HA1 := Lib.hid hA1
  have HA2 := Lib.hid hA2
  have HA3 := Lib.hid hA3
  have BR : Hid (Below W0.heap.size W0 W0) := Below.refl _ _
  have HTb := Lib.hid hT
  have hszP : (Tryd.prog.info? 24).map (·.size) = some (#[.slice a0 n0 c0, .slice a1 n1 c1, .slice a2 n2 c2, .slice a3 n3 c3, .slice a4 n4 c4, .slice a5 n5 c5, .slice a6 n6 c6, .slice a7 n7 c7] : Array Value).size := by kernel_rfl
  have hszQ : (Tryd.prog.info? 24).map (·.size) = some (#[.slice b0 m0 d0, .slice b1 m1 d1, .slice b2 m2 d2, .slice b3 m3 d3, .slice b4 m4 d4, .slice b5 m5 d5, .slice b6 m6 d6, .slice b7 m7 d7] : Array Value).size := by kernel_rfl
  clear hb0 hs0 hA0 hA1 hA2 hA3 hT hW0
  subst hN
  go_enter Tryd.func12, Tryd.ntmps12
  go_wp2_with (first
    | (rw [HW0.out]; refine wpList_load_row rfl 24 _ rfl (w.heap.size + 1) rfl 24 _ (0, 0) _ (HX.out BR.out HA1.out) Tryd.underlying24 rfl hszQ ?_)
    | (go_at_call 40; (with_reducible refine (HLq.out _ (HB0.out.trans (BR.out.mono HB0.out.size))).mono ?_); rintro e w1 ⟨X1, Y1, v', rfl, hbl1, hc1, hcl1, hn1, g1⟩; have B1 := Lib.hid (BR.out.trans (g1.mono BR.out.size)); have HC1 := Lib.hid hcl1; have HN1 := Lib.hid hn1; have HL1 := Lib.hid hbl1; have HD1 := Lib.hid hc1; clear g1 hbl1 hc1 hcl1 hn1)
    | (refine wpList_load_row rfl 24 _ rfl w.heap.size rfl 24 _ (0, 0) _ (HX.out B1.out HA0.out) Tryd.underlying24 rfl hszP ?_)
    | (go_at_call 40; (with_reducible refine (HLp.out _ (HB0.out.trans (B1.out.mono HB0.out.size))).mono ?_); rintro e w2 ⟨X2, Y2, u', rfl, hbl2, hc2, hcl2, hn2, g2⟩; have G2 := Lib.hid g2; have B2 := Lib.hid (B1.out.trans (g2.mono B1.out.size)); have HC2 := Lib.hid hcl2; have HN2 := Lib.hid hn2; have HL2 := Lib.hid hbl2; have HD2 := Lib.hid hc2; clear g2 hbl2 hc2 hcl2 hn2)
    | fail)
  obtain ⟨M, hM⟩ : ∃ M, M = w.heap.size + 1 + 1 + 1 := ⟨_, rfl⟩
  obtain ⟨D, hD⟩ : ∃ D, D = w.heap.size + 1 + 1 := ⟨_, rfl⟩
  have hM0 : M < W0.heap.size := by have := HS0.out; omega
  have hD0 : D < W0.heap.size := by have := HS0.out; omega
  have HNF : Hid (∀ (k : Nat), k < 8 → ∀ W : World, Moves (fun i => i = M) w2 W → W.cell? ⟨X1, k, none⟩ = some (v' k) ∧ W.cell? ⟨X2, k, none⟩ = some (u' k) ∧ Calls Tryd.prog 41 #[u' k, v' k] W fun e w' => e = .returned (.tuple #[.string (chAt p q k).1, .bool (chAt p q k).2]) ∧ Below W.heap.size W w') := fun k hk W m => by
    obtain ⟨e1, e2, e3⟩ := HC1.out k hk
    obtain ⟨e4, e5, e6⟩ := HC2.out k hk
    have hG := G2.out
    have hz1 := B1.out.size
    have hn1 := HN1.out
    have hn2 := HN2.out
    have hl1 := HL1.out
    have hl2 := HL2.out
    have hg := hG.size
    refine ⟨?_, ?_, nFirst_any (texts_row e5 m fun hne i hi hS => ?_) (texts_row (e2.below hG) m fun hne i hi hS => ?_) ?_ ?_ ?_ ?_⟩
    · exact (m.cell (p := ⟨X1, k, none⟩) (Nat.lt_of_lt_of_le hl1 hg) (by show ¬ X1 = M; omega)).trans ((hG.cell (p := ⟨X1, k, none⟩) hl1).trans e1)
    · exact (m.cell (p := ⟨X2, k, none⟩) hl2 (by show ¬ X2 = M; omega)).trans e4
    · obtain ⟨g, h1, h2⟩ := e6 (fun e => hne (by rw [e]; rfl))
      have := Option.some.inj (h1.symm.trans hi)
      omega
    · obtain ⟨g, h1, h2⟩ := e3 (fun e => hne (by rw [e]; rfl))
      have := Option.some.inj (h1.symm.trans hi)
      omega
    · rw [List.length_map]; have := hl k hk; unfold maxLen; omega
    · rw [List.length_map]; have := hl' k hk; omega
    · intro x hx
      obtain ⟨y, hy, rfl⟩ := List.mem_map.1 hx
      rw [bs_size]
      have := hs k hk y hy; unfold maxLen; omega
    · intro x hx
      obtain ⟨y, hy, rfl⟩ := List.mem_map.1 hx
      rw [bs_size]
      have := hs' k hk y hy; unfold maxLen; omega
  have HM2 : Hid (Holds w2 M 73 (upRow (fun k => (chAt p q k).1) 0)) := by
    rw [hM]
    exact HX.out B2.out HA3.out
  have HDh : Hid (∀ W, Moves (fun i => i = M) w2 W → Holds W D 28 #[.string ⟨#[]⟩, .string ⟨#[]⟩, .string ⟨#[]⟩, .string ⟨#[]⟩, .string ⟨#[]⟩, .string ⟨#[]⟩, .string ⟨#[]⟩, .string ⟨#[]⟩]) := fun W m => (show Holds w2 D 28 #[.string ⟨#[]⟩, .string ⟨#[]⟩, .string ⟨#[]⟩, .string ⟨#[]⟩, .string ⟨#[]⟩, .string ⟨#[]⟩, .string ⟨#[]⟩, .string ⟨#[]⟩] by rw [hD]; exact HX.out B2.out HA2.out).moves m (by show ¬ D = M; omega)
  have HBw : Hid (Below w.heap.size w w2) := HB0.out.trans (B2.out.mono HB0.out.size)
  have HMg : Hid (w.heap.size ≤ M) := by show w.heap.size ≤ M; omega
  have HDg : Hid (w.heap.size ≤ D) := by show w.heap.size ≤ D; omega
  have HTw : Hid (∀ W, Below w.heap.size w W → Tab15 W) := fun W hb => HTb.out.below hb
  have hMl : M < w2.heap.size := HM2.out.lt
  have HML := Lib.hid hMl
  have HFa : Hid (∀ j, j < 8 → (∀ k < j, (chAt p q k).2 = true) → (chAt p q j).2 = false → badAt (fun k => (chAt p q k).2) = j) := fun j hj h1 h2 => badAt_is hj h1 h2
  have HFn : Hid ((∀ k < 8, (chAt p q k).2 = true) → badAt (fun k => (chAt p q k).2) = 8) := badAt_none
  have HOf : Hid (∀ (x : ByteArray) (W : World), Calls Tryd.prog 43 #[.string x, .int .i64 10] W fun r w' => ∃ t y, r = .returned (.iface t y) ∧ ErrAt w' (.iface t y) [x] (some 10) ∧ Below W.heap.size W w') := fun x W => (fOf_any x 10 (by decide) W).mono (by
    rintro r w' ⟨v', rfl, he, hne, hb⟩
    cases he with
    | fault h1 h2 h3 h4 => exact ⟨_, _, rfl, .fault h1 h2 h3 h4, hb⟩)
  have HAt : Hid (∀ {W : World} {t : TypeId} {y : Value} {x : ByteArray}, ErrAt W (.iface t y) [x] (some 10) → Calls Tryd.prog 42 #[.string ⟨#[99, 104, 111, 111, 115, 101]⟩, .iface t y] W fun r w' => ∃ t' y', r = .returned (.iface t' y') ∧ ErrAt w' (.iface t' y') [chooseS, x] (some 10) ∧ Below W.heap.size W w') := fun he => (fAt_any he (by simp) chooseS).mono (by
    rintro r w' ⟨v', rfl, he, hne, hb⟩
    cases he with
    | fault h1 h2 h3 h4 => exact ⟨_, _, rfl, .fault h1 h2 h3 h4, hb⟩)
  clear HC1 HC2 HN1 HN2 HL1 HL2 G2 B1 B2 BR HX HA0 HA1 HA2 HA3 HS0 HB0 hM0 hD0 HLp HLq HTb hl hl' hs hs' hszP hszQ hMl
  have hD1 := HD1.out
  have hD2 := HD2.out
  clear HD1 HD2
  rw [← hM, ← hD]
  clear hM hD
  go_loopw [17] (fun i wr => ∃ k : Nat, k ≤ 8 ∧ i = .int .i64 k ∧ (∀ j < k, (chAt p q j).2 = true) ∧ Holds wr M 73 (upRow (fun k => (chAt p q k).1) k) ∧ Moves (fun i => i = M) w2 wr ∧ Below w.heap.size w wr) (fun i _ => 9 - (intOf i).toNat)
  case atStart => exact ⟨0, Nat.zero_le _, rfl, fun j hj => absurd hj (by omega), HM2.out, Moves.refl _ _, HBw.out⟩
  case round =>
    obtain ⟨k, hk, rfl, hall, hrow, hmv, hbl⟩ := hrel
    by_cases hlt : k < 8
    · obtain ⟨x1, x2, hnf⟩ := HNF.out k hlt wr hmv
      have HHall := Lib.hid hall
      have HRow := Lib.hid hrow
      have HMv := Lib.hid hmv
      have HBl := Lib.hid hbl
      have HNf := Lib.hid hnf
      have HB := Lib.hid (HFa.out k hlt hall)
      have hk0 : (0 : Int) ≤ (k : Int) := by omega
      have hk8 : (k : Int) < 8 := by omega
      have hkc : (k : Int) < (Y2 : Int) := by omega
      have hkd : (k : Int) < (Y1 : Int) := by omega
      have HUp : Hid ((upRow (fun k => (chAt p q k).1) k).setIfInBounds k (.string (chAt p q k).1) = upRow (fun k => (chAt p q k).1) (k + 1)) := up_step (fun k => (chAt p q k).1) k hlt
      have HYes : Hid ((chAt p q k).2 = true → ∀ j < k + 1, (chAt p q j).2 = true) := fun h1 j hj => by
        rcases Nat.lt_or_eq_of_le (Nat.le_of_lt_succ hj) with h2 | rfl
        · exact hall j h2
        · exact h1
      have HC0 : Hid ((upRow (fun k => (chAt p q k).1) k)[k]? = some (.string ⟨#[]⟩)) := up_at _ k hlt
      have HLi : Hid (∀ W, Below w.heap.size w W → Calls Tryd.prog 44 #[.int .i64 (k : Int)] W fun e w' => e = .returned (.string (bs (wordZ k))) ∧ w' = W) := fun W hb => pfList_any (HTw.out W hb) k
      clear hall hrow hmv hbl hnf HNF HFa HFn HM2 HBw HTw
      obtain ⟨X, hX⟩ : ∃ X, X = (chAt p q k).1 := ⟨_, rfl⟩
      obtain ⟨z, hz⟩ : ∃ z, z = (chAt p q k).2 := ⟨_, rfl⟩
      rw [← hX, ← hz] at HNf
      rw [← hX] at HUp
      rw [← hz] at HYes
      cases z with
      | true =>
        have HAll := Lib.hid (HYes.out rfl)
        clear HYes HB hz hX HOf HAt HLi
        go_wp2_with (first
          | (go_at_call 41; (with_reducible refine HNf.out.mono ?_); rintro e w3 ⟨rfl, b3⟩; have B3 := Lib.hid b3; have HR3 := Lib.hid (HRow.out.moves (Moves.ofBelow (S := nobody) b3) (fun h => h)); have y0 := (HR3.out.cell k).trans HC0.out; have y1 := HR3.out.frozen k; clear b3)
          | fail)
        go_roundw
        case rel =>
          refine ⟨k + 1, by omega, by go_num, HAll.out, ?_, ?_, ?_⟩
          · have h := HR3.out.set k (.string X)
            rw [HUp.out] at h
            exact h
          · exact (HMv.out.trans (Moves.ofBelow (S := nobody) B3.out) (fun _ h => h.elim)).setCell (.inl rfl) _
          · exact (HBl.out.trans (B3.out.mono HBl.out.size)).setCell HMg.out _
        case measure => simp [intOf]; omega
      | false =>
        have HJ := Lib.hid (HB.out hz.symm)
        clear HYes HB hz hX HUp HC0
        go_wp2_with (first
          | (go_at_call 41; (with_reducible refine HNf.out.mono ?_); rintro e w3 ⟨rfl, b3⟩; have B3 := Lib.hid (HBl.out.trans (b3.mono HBl.out.size)); have M3 := Lib.hid (HMv.out.trans (Moves.ofBelow (S := nobody) b3) (fun _ h => h.elim)); clear b3)
          | (go_at_call 44; (with_reducible refine (HLi.out _ B3.out).mono ?_); rintro e w4 ⟨rfl, rfl⟩)
          | (go_at_call 43; (with_reducible refine (HOf.out _ _).mono ?_); rintro e w5 ⟨t5, y5, rfl, he5, b5⟩; have HE5 := Lib.hid he5; have B5 := Lib.hid (B3.out.trans (b5.mono B3.out.size)); have M5 := Lib.hid (M3.out.trans (Moves.ofBelow (S := nobody) b5) (fun _ h => h.elim)); clear b5 he5)
          | (go_at_call 42; (with_reducible refine (HAt.out HE5.out).mono ?_); rintro e w6 ⟨t6, y6, rfl, he6, b6⟩; have HE6 := Lib.hid he6; have B6 := Lib.hid (B5.out.trans (b6.mono B5.out.size)); have M6 := Lib.hid (M5.out.trans (Moves.ofBelow (S := nobody) b6) (fun _ h => h.elim)); have z0 := (HDh.out _ M6.out).cell 0; have s0 := (HDh.out _ M6.out).frozen 0; have z1 := (HDh.out _ M6.out).cell 1; have s1 := (HDh.out _ M6.out).frozen 1; have z2 := (HDh.out _ M6.out).cell 2; have s2 := (HDh.out _ M6.out).frozen 2; have z3 := (HDh.out _ M6.out).cell 3; have s3 := (HDh.out _ M6.out).frozen 3; have z4 := (HDh.out _ M6.out).cell 4; have s4 := (HDh.out _ M6.out).frozen 4; have z5 := (HDh.out _ M6.out).cell 5; have s5 := (HDh.out _ M6.out).frozen 5; have z6 := (HDh.out _ M6.out).cell 6; have s6 := (HDh.out _ M6.out).frozen 6; have z7 := (HDh.out _ M6.out).cell 7; have s7 := (HDh.out _ M6.out).frozen 7; clear b6 he6)
          | fail)
        rw [ch_cell_same (HDh.out _ M6.out) rfl, ch_cell_same (HDh.out _ M6.out) rfl, ch_cell_same (HDh.out _ M6.out) rfl, ch_cell_same (HDh.out _ M6.out) rfl, ch_cell_same (HDh.out _ M6.out) rfl, ch_cell_same (HDh.out _ M6.out) rfl, ch_cell_same (HDh.out _ M6.out) rfl, ch_cell_same (HDh.out _ M6.out) rfl]
        exact bodyPost_ret (pfResults (p := 4) (u := 5) rfl _ _ D _ _ (0, 0) _ rfl (HDh.out _ M6.out) Tryd.underlying28 rfl (by kernel_rfl)) rfl ⟨fun h => absurd (HJ.out.symm.trans h) (by omega), fun _ => ⟨t6, y6, rfl, by rw [HJ.out]; exact HE6.out⟩, B6.out⟩
    · have hkl : k = 8 := by omega
      subst hkl
      have HRow := Lib.hid hrow
      have HMv := Lib.hid hmv
      have HBl := Lib.hid hbl
      have HJ := Lib.hid (HFn.out hall)
      have HO : Hid (∀ W : World, Calls Tryd.prog 45 #[.agg (upRow (fun k => (chAt p q k).1) 8)] W fun e w' => e = .returned (.agg #[.string (chAt p q 0).1, .string (chAt p q 1).1, .string (chAt p q 2).1, .string (chAt p q 3).1, .string (chAt p q 4).1, .string (chAt p q 5).1, .string (chAt p q 6).1, .string (chAt p q 7).1]) ∧ Below W.heap.size W w') := fun W => chOf_any (fun k => (chAt p q k).1) W
      have hszU : (Tryd.prog.info? 73).map (·.size) = some (upRow (fun k => (chAt p q k).1) 8).size := by
        rw [up_size]
        kernel_rfl
      clear hall hrow hmv hbl hlt hk HNF HFa HFn HM2 HBw HTw HOf HAt
      obtain ⟨UR, hUR⟩ : ∃ UR, UR = upRow (fun k => (chAt p q k).1) 8 := ⟨_, rfl⟩
      rw [← hUR] at HRow HO hszU
      clear hUR
      obtain ⟨F0, hF0⟩ : ∃ F, F = (chAt p q 0).1 := ⟨_, rfl⟩
      obtain ⟨F1, hF1⟩ : ∃ F, F = (chAt p q 1).1 := ⟨_, rfl⟩
      obtain ⟨F2, hF2⟩ : ∃ F, F = (chAt p q 2).1 := ⟨_, rfl⟩
      obtain ⟨F3, hF3⟩ : ∃ F, F = (chAt p q 3).1 := ⟨_, rfl⟩
      obtain ⟨F4, hF4⟩ : ∃ F, F = (chAt p q 4).1 := ⟨_, rfl⟩
      obtain ⟨F5, hF5⟩ : ∃ F, F = (chAt p q 5).1 := ⟨_, rfl⟩
      obtain ⟨F6, hF6⟩ : ∃ F, F = (chAt p q 6).1 := ⟨_, rfl⟩
      obtain ⟨F7, hF7⟩ : ∃ F, F = (chAt p q 7).1 := ⟨_, rfl⟩
      rw [← hF0, ← hF1, ← hF2, ← hF3, ← hF4, ← hF5, ← hF6, ← hF7] at HO
      have HF : Hid (agg8S (fun k => (chAt p q k).1) = .agg #[.string F0, .string F1, .string F2, .string F3, .string F4, .string F5, .string F6, .string F7]) := by
        show (.agg #[.string (chAt p q 0).1, .string (chAt p q 1).1, .string (chAt p q 2).1, .string (chAt p q 3).1, .string (chAt p q 4).1, .string (chAt p q 5).1, .string (chAt p q 6).1, .string (chAt p q 7).1] : Value) = _
        rw [hF0, hF1, hF2, hF3, hF4, hF5, hF6, hF7]
      clear hF0 hF1 hF2 hF3 hF4 hF5 hF6 hF7
      go_wp2_with (first
        | (refine wpList_load_row rfl 73 _ rfl M rfl 73 _ (0, 0) _ HRow.out Tryd.underlying73 rfl hszU ?_)
        | (go_at_call 45; (with_reducible refine (HO.out _).mono ?_); rintro e w3 ⟨rfl, b3⟩; have B3 := Lib.hid (HBl.out.trans (b3.mono HBl.out.size)); have M3 := Lib.hid (HMv.out.trans (Moves.ofBelow (S := nobody) b3) (fun _ h => h.elim)); have z0 := (HDh.out _ M3.out).cell 0; have s0 := (HDh.out _ M3.out).frozen 0; have z1 := (HDh.out _ M3.out).cell 1; have s1 := (HDh.out _ M3.out).frozen 1; have z2 := (HDh.out _ M3.out).cell 2; have s2 := (HDh.out _ M3.out).frozen 2; have z3 := (HDh.out _ M3.out).cell 3; have s3 := (HDh.out _ M3.out).frozen 3; have z4 := (HDh.out _ M3.out).cell 4; have s4 := (HDh.out _ M3.out).frozen 4; have z5 := (HDh.out _ M3.out).cell 5; have s5 := (HDh.out _ M3.out).frozen 5; have z6 := (HDh.out _ M3.out).cell 6; have s6 := (HDh.out _ M3.out).frozen 6; have z7 := (HDh.out _ M3.out).cell 7; have s7 := (HDh.out _ M3.out).frozen 7; clear b3)
        | fail)
      have hF : Holds ((((((((w3.setCell ⟨D, 0, none⟩ (.string F0)).setCell ⟨D, 1, none⟩ (.string F1)).setCell ⟨D, 2, none⟩ (.string F2)).setCell ⟨D, 3, none⟩ (.string F3)).setCell ⟨D, 4, none⟩ (.string F4)).setCell ⟨D, 5, none⟩ (.string F5)).setCell ⟨D, 6, none⟩ (.string F6)).setCell ⟨D, 7, none⟩ (.string F7)) D 28 #[.string F0, .string F1, .string F2, .string F3, .string F4, .string F5, .string F6, .string F7] := (((((((((HDh.out _ M3.out).set 0 (.string F0)).set 1 (.string F1)).set 2 (.string F2)).set 3 (.string F3)).set 4 (.string F4)).set 5 (.string F5)).set 6 (.string F6)).set 7 (.string F7))
      exact bodyPost_ret (pfResults (p := 4) (u := 5) rfl _ _ D _ _ (0, 0) _ rfl hF Tryd.underlying28 rfl (by kernel_rfl)) rfl ⟨fun _ => by rw [HF.out]; rfl, fun h => absurd h (by rw [HJ.out]; omega), ((((((((B3.out.setCell HDg.out (.string F0)).setCell HDg.out (.string F1)).setCell HDg.out (.string F2)).setCell HDg.out (.string F3)).setCell HDg.out (.string F4)).setCell HDg.out (.string F5)).setCell HDg.out (.string F6)).setCell HDg.out (.string F7))⟩
end Go.Proofs.YtihkhcocfhbekaaDoor
