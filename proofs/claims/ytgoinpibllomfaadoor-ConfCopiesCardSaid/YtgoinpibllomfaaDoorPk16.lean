/- Part 16 of what the statement wants. -/
import Derived.Test.YtgoinpibllomfaaDoorPk11
namespace Go.Proofs.YtgoinpibllomfaaDoor
open Go.RowKit

set_option maxHeartbeats 1000000 in
set_option maxRecDepth 100000 in
theorem r15Lists_raw {u : Nat → Value} (hu : ∀ k < 8, ∃ a n c, u k = .slice a n c) (w : World) : Calls Tryd.prog 53 #[agg8 u] w fun e w' => e = .returned (.slice (some ⟨w.heap.size + 1, 0, none⟩) 8 8) ∧ Holds w' (w.heap.size + 1) 23 #[u 0, u 1, u 2, u 3, u 4, u 5, u 6, u 7] ∧ Below w.heap.size w w' := by
  unfold agg8
  obtain ⟨a0, n0, c0, e0⟩ := hu 0 (by omega)
  obtain ⟨a1, n1, c1, e1⟩ := hu 1 (by omega)
  obtain ⟨a2, n2, c2, e2⟩ := hu 2 (by omega)
  obtain ⟨a3, n3, c3, e3⟩ := hu 3 (by omega)
  obtain ⟨a4, n4, c4, e4⟩ := hu 4 (by omega)
  obtain ⟨a5, n5, c5, e5⟩ := hu 5 (by omega)
  obtain ⟨a6, n6, c6, e6⟩ := hu 6 (by omega)
  obtain ⟨a7, n7, c7, e7⟩ := hu 7 (by omega)
  rw [e0, e1, e2, e3, e4, e5, e6, e7]
  clear hu e0 e1 e2 e3 e4 e5 e6 e7 u
  have hN := Holds.new (w.alloc (.cells #[.slice a0 n0 c0, .slice a1 n1 c1, .slice a2 n2 c2, .slice a3 n3 c3, .slice a4 n4 c4, .slice a5 n5 c5, .slice a6 n6 c6, .slice a7 n7 c7] 46)) 23 #[.slice a0 n0 c0, .slice a1 n1 c1, .slice a2 n2 c2, .slice a3 n3 c3, .slice a4 n4 c4, .slice a5 n5 c5, .slice a6 n6 c6, .slice a7 n7 c7]
  rw [World.size_alloc] at hN
  have HN := Lib.hid hN
  clear hN
  go_enter Tryd.func53, Tryd.ntmps53
  go_wp2_with fail
  go_ret
  exact ⟨rfl, HN.out, ((Below.refl _ _).alloc (Nat.le_refl _) _).alloc (by simp) _⟩
theorem r15Lists_any {w : World} {u : Nat → Value} {p : Nat → List (List UInt8)} (h : ∀ k < 8, TextsAt w (u k) ((p k).map bs)) : Calls Tryd.prog 53 #[agg8 u] w fun e w' => ∃ b, e = .returned (.slice (some ⟨b, 0, none⟩) 8 8) ∧ b < w'.heap.size ∧ (∀ k < 8, w'.cell? ⟨b, k, none⟩ = some (u k)) ∧ Below w.heap.size w w' :=
  (r15Lists_raw (fun k hk => by obtain ⟨a, c, e, _⟩ := h k hk; exact ⟨a, _, c, e⟩) w).mono (by
    rintro e w' ⟨rfl, hN, hb⟩
    refine ⟨_, rfl, hN.lt, fun k hk => ?_, hb⟩
    match k, hk with
    | 0, _ => exact hN.cell 0
    | 1, _ => exact hN.cell 1
    | 2, _ => exact hN.cell 2
    | 3, _ => exact hN.cell 3
    | 4, _ => exact hN.cell 4
    | 5, _ => exact hN.cell 5
    | 6, _ => exact hN.cell 6
    | 7, _ => exact hN.cell 7)

/-- Eight lists in memory: what a value of Prefs is made of. -/
structure Eight (w : World) (u : Nat → Value) (p : Nat → List (List UInt8)) : Prop where
  at_ : ∀ k < 8, TextsAt w (u k) ((p k).map bs)
  room : ∀ k < 8, Room15 (u k)
  len : ∀ k < 8, (p k).length ≤ maxLen
theorem Eight.below {w w' : World} {u : Nat → Value} {p : Nat → List (List UInt8)} (h : Eight w u p) (hb : Below w.heap.size w w') : Eight w' u p := ⟨fun k hk => (h.at_ k hk).below hb, h.room, h.len⟩
theorem Eight.sl {w : World} {u : Nat → Value} {p : Nat → List (List UInt8)} (h : Eight w u p) : ∀ k < 8, ∃ a n c, u k = .slice a n c := fun k hk => by
  obtain ⟨a, c, e, _⟩ := h.at_ k hk
  exact ⟨a, _, c, e⟩
theorem Eight.sl2 {w : World} {u : Nat → Value} {p : Nat → List (List UInt8)} (h : Eight w u p) : ∀ k < 8, ∃ a c, u k = .slice a (p k).length c := fun k hk => by
  obtain ⟨a, c, e, _⟩ := h.at_ k hk
  rw [List.length_map] at e
  exact ⟨a, c, e⟩

def okP15 (l : List (List UInt8)) : Prop := l.length ≤ 20 ∧ ∀ x ∈ l, x.length ≤ 100
set_option maxHeartbeats 1000000 in
set_option maxRecDepth 100000 in
theorem few15_any {w : World} {u : Nat → Value} {p : Nat → List (List UInt8)} (h : Eight w u p) (hs : ∀ k < 8, ∀ x ∈ p k, x.length ≤ maxLen) :
    Calls Tryd.prog 37 #[agg8 u] w fun e w' => ∃ z : Bool, e = .returned (.bool z) ∧ (z = true ↔ ∀ k < 8, okP15 (p k)) ∧ Below w.heap.size w w' := by
  have hpe := fun (W : World) (hb : Below w.heap.size w W) => r15Lists_any (w := W) fun k hk => (h.at_ k hk).below hb
  have hsl := h.sl
  obtain ⟨a0, n0, c0, e0⟩ := hsl 0 (by omega)
  obtain ⟨a1, n1, c1, e1⟩ := hsl 1 (by omega)
  obtain ⟨a2, n2, c2, e2⟩ := hsl 2 (by omega)
  obtain ⟨a3, n3, c3, e3⟩ := hsl 3 (by omega)
  obtain ⟨a4, n4, c4, e4⟩ := hsl 4 (by omega)
  obtain ⟨a5, n5, c5, e5⟩ := hsl 5 (by omega)
  obtain ⟨a6, n6, c6, e6⟩ := hsl 6 (by omega)
  obtain ⟨a7, n7, c7, e7⟩ := hsl 7 (by omega)
  obtain ⟨E, hE⟩ : ∃ E, E = agg8 u := ⟨_, rfl⟩
  have hX : E = .agg #[.slice a0 n0 c0, .slice a1 n1 c1, .slice a2 n2 c2, .slice a3 n3 c3, .slice a4 n4 c4, .slice a5 n5 c5, .slice a6 n6 c6, .slice a7 n7 c7] := by rw [hE]; unfold agg8; rw [e0, e1, e2, e3, e4, e5, e6, e7]
  have hb1 : Below w.heap.size w (w.alloc (.cells #[.slice a0 n0 c0, .slice a1 n1 c1, .slice a2 n2 c2, .slice a3 n3 c3, .slice a4 n4 c4, .slice a5 n5 c5, .slice a6 n6 c6, .slice a7 n7 c7] 46)) := (Below.refl _ _).alloc (Nat.le_refl _) _
  rw [← hE] at hpe ⊢
  have HE : Hid (Calls Tryd.prog 53 #[.agg #[.slice a0 n0 c0, .slice a1 n1 c1, .slice a2 n2 c2, .slice a3 n3 c3, .slice a4 n4 c4, .slice a5 n5 c5, .slice a6 n6 c6, .slice a7 n7 c7]] (w.alloc (.cells #[.slice a0 n0 c0, .slice a1 n1 c1, .slice a2 n2 c2, .slice a3 n3 c3, .slice a4 n4 c4, .slice a5 n5 c5, .slice a6 n6 c6, .slice a7 n7 c7] 46)) fun e w' => ∃ b, e = .returned (.slice (some ⟨b, 0, none⟩) 8 8) ∧ b < w'.heap.size ∧ (∀ k < 8, w'.cell? ⟨b, k, none⟩ = some (u k)) ∧ Below w.heap.size w w') := by
    show Calls _ _ _ _ _
    rw [← hX]
    exact (hpe _ hb1).mono fun e w' ⟨b, h1, h2, h3, h4⟩ => ⟨b, h1, h2, h3, hb1.trans (h4.mono hb1.size)⟩
  have HAt : Hid (∀ (k : Nat) (hk : k < 8) (W : World) (hb : Below w.heap.size w W), TextsAt W (u k) ((p k).map bs)) := fun k hk W hb => (h.at_ k hk).below hb
  have HSl := Lib.hid h.sl2
  have HS := Lib.hid hs
  have HLn := Lib.hid h.len
  rw [hX]
  clear hb1 h hs hpe hX hE hsl e0 e1 e2 e3 e4 e5 e6 e7
  go_enter Tryd.func37, Tryd.ntmps37
  go_wp2_with (go_at_call 53; (with_reducible refine HE.out.mono ?_); rintro e w2 ⟨b, rfl, hbs, hcl, b2⟩)
  have HCl := Lib.hid hcl
  clear hcl HE
  go_loopw [4] (fun i wr => ∃ k : Nat, k ≤ 8 ∧ i = .int .i64 k ∧ (∀ j < k, okP15 (p j)) ∧ wr = w2) (fun i _ => 9 - (intOf i).toNat)
  case atStart => exact ⟨0, Nat.zero_le _, rfl, fun j hj => absurd hj (by omega), rfl⟩
  case round =>
    obtain ⟨k, hk, rfl, hall, rfl⟩ := hrel
    by_cases hlt : k < 8
    · obtain ⟨ak, ck, ek⟩ := HSl.out k hlt
      have c1 := HCl.out k hlt
      have hT := HAt.out k hlt wr b2
      have hln := HLn.out k hlt
      have HNo : Hid (¬ okP15 (p k) → ¬ ∀ j < 8, okP15 (p j)) := fun h1 h2 => h1 (h2 k hlt)
      have HYes : Hid (okP15 (p k) → ∀ j < k + 1, okP15 (p j)) := fun h1 j hj => by
        rcases Nat.lt_or_eq_of_le (Nat.le_of_lt_succ hj) with h2 | rfl
        · exact hall j h2
        · exact h1
      rw [ek] at c1 hT
      have hsk := HS.out k hlt
      obtain ⟨l, hl⟩ : ∃ l, l = p k := ⟨_, rfl⟩
      rw [← hl] at c1 hT hln HNo HYes hsk
      clear ek hall HSl HAt HCl HS HLn hl
      unfold maxLen at hln hsk
      have HB2 := Lib.hid b2
      by_cases h20 : 20 < l.length
      · have q : decide ((l.length : Int) > 20) = true := decide_eq_true (by omega)
        have HN := Lib.hid (HNo.out fun hh => by have := hh.1; omega)
        clear HNo HYes b2 hT hsk
        go_wp2_with fail
        go_ret
        exact ⟨_, rfl, ⟨fun h => absurd h Bool.false_ne_true, fun h => absurd h HN.out⟩, HB2.out⟩
      · have q : decide ((l.length : Int) > 20) = false := decide_eq_false (by omega)
        obtain ⟨_, _, e1, hc⟩ := hT
        injection e1 with e1 g1 g2
        clear g1 g2
        subst e1
        have HC := Lib.hid hc
        have HSk := Lib.hid hsk
        clear hc hsk b2
        go_wp2_with fail
        go_loopw [5] (fun i wr2 => ∃ j : Nat, j ≤ l.length ∧ i = .int .i64 j ∧ (∀ x ∈ l.take j, x.length ≤ 100) ∧ wr2 = wr) (fun i _ => l.length - (intOf i).toNat)
        case atStart => exact ⟨0, Nat.zero_le _, rfl, by simp, rfl⟩
        case round =>
          obtain ⟨j, hj, rfl, hall2, rfl⟩ := hrel
          by_cases hlt2 : j < l.length
          · obtain ⟨bb, off, rfl, hbb, hcell⟩ := HC.out (by intro h; simp at h; simp [h] at hlt2)
            obtain ⟨x, hx⟩ : ∃ x, x = l[j] := ⟨_, rfl⟩
            have c2 := hcell j (bs x) (by rw [List.getElem?_map, List.getElem?_eq_getElem hlt2, hx]; rfl)
            have hxs := HSk.out x (by rw [hx]; exact List.getElem_mem hlt2)
            have hsz := bs_size x
            have HN2 : Hid (100 < x.length → ¬ okP15 l) := fun h1 h2 => by
              have := h2.2 x (by rw [hx]; exact List.getElem_mem hlt2)
              omega
            have HY2 : Hid (x.length ≤ 100 → ∀ y ∈ l.take (j + 1), y.length ≤ 100) := fun e y hy => by
              rw [List.take_succ_eq_append_getElem hlt2, ← hx, List.mem_append] at hy
              rcases hy with hy | hy
              · exact hall2 y hy
              · simp at hy
                rw [hy]; exact e
            clear hcell hx hall2 HC HSk
            generalize bs x = X at *
            by_cases h100 : 100 < x.length
            · have q2 : decide ((X.size : Int) > 100) = true := decide_eq_true (by omega)
              have HN := Lib.hid (HNo.out (HN2.out h100))
              clear HNo HYes HN2 HY2 h100 hsz
              go_wp2_with fail
              go_ret
              exact ⟨_, rfl, ⟨fun h => absurd h Bool.false_ne_true, fun h => absurd h HN.out⟩, HB2.out⟩
            · have q2 : decide ((X.size : Int) > 100) = false := decide_eq_false (by omega)
              have HY3 := Lib.hid (HY2.out (by omega))
              clear HNo HYes HN2 HY2 h100 hsz
              go_wp2_with fail
              go_roundw
              case rel => exact ⟨j + 1, by omega, by go_num, HY3.out, trivial⟩
              case measure => simp [intOf]; omega
          · have hjl : j = l.length := by omega
            subst hjl
            rw [List.take_length] at hall2
            have HY4 := Lib.hid (HYes.out ⟨by omega, hall2⟩)
            clear hall2 hlt2 HYes HNo HC HSk
            go_wp2_with fail
            go_roundw
            case rel => exact ⟨k + 1, by omega, by go_num, HY4.out, trivial⟩
            case measure => simp [intOf]; omega
    · have hkl : k = 8 := by omega
      subst hkl
      have HAl := Lib.hid hall
      clear hall hlt HSl HAt HCl HS HLn
      go_wp2_with fail
      go_ret
      exact ⟨_, rfl, ⟨fun _ => HAl.out, fun _ => rfl⟩, b2⟩
end Go.Proofs.YtgoinpibllomfaaDoor
