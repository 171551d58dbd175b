/- Get and Is. -/
import Derived.Test.YtkdbmfgbokbnfaaDoorMg1
import Derived.Test.YtkdbmfgbokbnfaaDoorStrs
import Derived.Deep.Cut
namespace Go.Proofs.YtkdbmfgbokbnfaaDoor
open Go.RowKit

theorem cloneS_any {w : World} {v : Value} {l : List ByteArray} (h : TextsAt w v l) (hl : l.length ≤ 8796093022208) :
    Calls Tryd.prog 12 #[v] w fun e w' => ∃ v', e = .returned v' ∧ TextsAt w' v' l ∧ (l ≠ [] → ∃ g, v'.ownBlock = some g ∧ w.heap.size ≤ g) ∧ Below w.heap.size w w' := by
  obtain ⟨ao, cap, rfl, hc⟩ := h
  cases ao with
  | none =>
    have hnil : l = [] := by
      by_cases h : l = []
      · exact h
      · obtain ⟨_, _, e, _⟩ := hc h; cases e
    subst hnil
    exact (Tryd.slices_Clone_string_nil _ cap w).mono fun e w' ⟨he, hw⟩ => ⟨_, he, TextsAt.nil _, fun h => absurd rfl h, hw ▸ Below.refl _ _⟩
  | some a =>
    cases l with
    | nil =>
      refine (Tryd.slices_Clone_string_zero a cap w).mono fun e w' ⟨v', he, ho, _, hb⟩ => ⟨v', he, ?_, fun h => absurd rfl h, hb⟩
      rcases ho.2 with ⟨rfl, _⟩ | ⟨g, c, cur, rfl, _⟩
      · exact TextsAt.nil _
      · exact ⟨_, c, rfl, fun h => absurd rfl h⟩
    | cons x r =>
      obtain ⟨b, off, e, hb, hcell⟩ := hc (by simp)
      cases e
      refine (Tryd.slices_Clone_string b off (x :: r).length cap (x :: r) w (Nat.le_refl _) (by omega) (fun j hj => hcell j _ (by rw [List.getD_eq_getElem?_getD, List.getElem?_eq_getElem hj]; rfl))).mono fun e w' ⟨v', he, ho, hne, hb'⟩ => ⟨v', he, ?_, fun _ => ?_, hb'⟩
      · rw [List.take_length] at ho
        exact TextsAt.ofRow (l := x :: r) ho (fun h => by cases h)
      · rcases ho.2 with ⟨rfl, _⟩ | ⟨g, c, cur, rfl, hg, _⟩
        · exact absurd rfl hne
        · exact ⟨g, rfl, hg⟩

def zeroF : FieldR := ⟨0, 0, [], []⟩
/-- The field at a place, the zero one if there is none. -/
def getP (fs : List FieldR) (i : Int) : FieldR := if 0 ≤ i ∧ i < fs.length then fs.getD i.toNat zeroF else zeroF
theorem getP_at {fs : List FieldR} {k : Nat} {x : FieldR} (h : fs[k]? = some x) : getP fs (k : Int) = x := by
  obtain ⟨hk, rfl⟩ := List.getElem?_eq_some_iff.1 h
  unfold getP
  rw [if_pos (by omega)]
  simp [List.getD, hk]

set_option maxHeartbeats 1000000 in
set_option maxRecDepth 100000 in
theorem get_any {w : World} {v : Value} {fs : List FieldR} (hv : FieldsAt w v fs) (num i : Int) :
    Calls Tryd.prog 5 #[msgV num v, .int .i64 i] w fun e w' => ∃ v', e = .returned (fieldV (getP fs i) v') ∧ TextsAt w' v' ((getP fs i).l.map bs) ∧ Below w.heap.size w w' := by
  obtain ⟨ao, cap, rfl, hcap, hlen, hin, hf⟩ := hv
  unfold msgV
  have hBA : Below w.heap.size w (w.alloc (.cells #[.int .i64 num, .slice ao fs.length cap] 24)) := (Below.refl w.heap.size w).alloc (Nat.le_refl _) _
  by_cases h0 : i < 0
  · have q0 : i < 0 := h0
    have hg : getP fs i = zeroF := if_neg (by omega)
    rw [hg]
    have HZ : Hid (∀ W, TextsAt W (.slice none 0 0) (zeroF.l.map bs)) := fun W => TextsAt.nil W
    have hH := Holds.new (w.alloc (.cells #[.int .i64 num, .slice ao fs.length cap] 24)) 28 #[.int .u8 0, .int .i64 0, .string ⟨#[]⟩, .slice none 0 0]
    have hB2 := hBA.alloc hBA.size (.cells #[.int .u8 0, .int .i64 0, .string ⟨#[]⟩, .slice none 0 0] 28)
    rw [World.size_alloc] at hH
    have HH := Lib.hid hH
    have HB := Lib.hid hB2
    unfold fieldV
    clear hBA hf hin hg hH hB2
    generalize fs.length = m at *
    go_enter Tryd.func5, Tryd.ntmps5
    go_wp2_with fail
    refine bodyPost_ret (v := .agg #[.int .u8 0, .int .i64 0, .string ⟨#[]⟩, .slice none 0 0]) ?_ rfl ⟨_, rfl, HZ.out _, HB.out⟩
    exact results_cell_row rfl _ _ (w.heap.size + 1) _ _ (0, 0) _ rfl HH.out Tryd.underlying28 rfl (by kernel_rfl)
  by_cases h1 : fs.length ≤ i
  · have q0 : i ≥ (fs.length : Int) := h1
    have hg : getP fs i = zeroF := if_neg (by omega)
    rw [hg]
    have HZ : Hid (∀ W, TextsAt W (.slice none 0 0) (zeroF.l.map bs)) := fun W => TextsAt.nil W
    have hH := Holds.new (w.alloc (.cells #[.int .i64 num, .slice ao fs.length cap] 24)) 28 #[.int .u8 0, .int .i64 0, .string ⟨#[]⟩, .slice none 0 0]
    have hB2 := hBA.alloc hBA.size (.cells #[.int .u8 0, .int .i64 0, .string ⟨#[]⟩, .slice none 0 0] 28)
    rw [World.size_alloc] at hH
    have HH := Lib.hid hH
    have HB := Lib.hid hB2
    unfold fieldV
    clear hBA hf hin hg hH hB2
    generalize fs.length = m at *
    go_enter Tryd.func5, Tryd.ntmps5
    go_wp2_with fail
    refine bodyPost_ret (v := .agg #[.int .u8 0, .int .i64 0, .string ⟨#[]⟩, .slice none 0 0]) ?_ rfl ⟨_, rfl, HZ.out _, HB.out⟩
    exact results_cell_row rfl _ _ (w.heap.size + 1) _ _ (0, 0) _ rfl HH.out Tryd.underlying28 rfl (by kernel_rfl)
  obtain ⟨k, rfl⟩ : ∃ k : Nat, i = k := ⟨i.toNat, by omega⟩
  have hk : k < fs.length := by omega
  obtain ⟨x, hx⟩ : ∃ x, fs[k]? = some x := ⟨_, List.getElem?_eq_getElem hk⟩
  rw [getP_at hx]
  obtain ⟨b, off, rfl, hbl, hfa⟩ := hf (by rintro rfl; simp at hk)
  have hfx := hfa k x hx
  have hxi := hin x (List.mem_of_getElem? hx)
  have q1 : ¬ (k : Int) ≥ (fs.length : Int) := by omega
  have hB2 := hBA.alloc hBA.size (.cells #[.int .u8 0, .int .i64 0, .string ⟨#[]⟩, .slice none 0 0] 28)
  have hR2 := Holds.new (w.alloc (.cells #[.int .i64 num, .slice (some ⟨b, off, none⟩) fs.length cap] 24)) 28 #[.int .u8 0, .int .i64 0, .string ⟨#[]⟩, .slice none 0 0]
  rw [World.size_alloc] at hR2
  have hN2 := (Holds.new w 24 #[.int .i64 num, .slice (some ⟨b, off, none⟩) fs.length cap]).moves ((Moves.refl nobody _).alloc (.cells #[.int .u8 0, .int .i64 0, .string ⟨#[]⟩, .slice none 0 0] 28)) fun h => h
  obtain ⟨W2, hW2⟩ : ∃ W2, W2 = (w.alloc (.cells #[.int .i64 num, .slice (some ⟨b, off, none⟩) fs.length cap] 24)).alloc (.cells #[.int .u8 0, .int .i64 0, .string ⟨#[]⟩, .slice none 0 0] 28) := ⟨_, rfl⟩
  have hs2 : W2.heap.size = w.heap.size + 2 := by rw [hW2]; simp
  rw [← hW2] at hB2 hR2 hN2
  have hf2 := hfx.below hbl hB2
  obtain ⟨x0, x1, x2, a2, cap2, x3, _, hT2⟩ := hf2
  have hn2 := hN2.cell 1
  have HCl : Hid (∀ W, Below W2.heap.size W2 W → Calls Tryd.prog 12 #[.slice a2 x.l.length cap2] W fun e w' => ∃ ao5 c5, e = .returned (.slice ao5 x.l.length c5) ∧ TextsAt w' (.slice ao5 x.l.length c5) (x.l.map bs) ∧ (x.l.map bs ≠ [] → ∃ g, (Value.slice ao5 x.l.length c5).ownBlock = some g ∧ W.heap.size ≤ g) ∧ Below W.heap.size W w') := fun W hb =>
    (cloneS_any (hT2.below hb) (by rw [List.length_map]; exact hxi.l)).mono fun e w' ⟨v', h1, h2, h3, h4⟩ => by
      obtain ⟨ao5, c5, rfl, h5⟩ := id h2
      rw [List.length_map] at *
      exact ⟨ao5, c5, h1, h2, h3, h4⟩
  have HB2 := Lib.hid hB2
  have HR2 := Lib.hid hR2
  have HN2 := Lib.hid hN2
  have HX : Hid (∀ S : ByteArray, Holds (W2.alloc (.cells #[.int .u8 (x.kind.toNat : Int), .int .i64 x.n, .string S, .slice a2 x.l.length cap2] 28)) W2.heap.size 28 #[.int .u8 (x.kind.toNat : Int), .int .i64 x.n, .string S, .slice a2 x.l.length cap2]) := fun S => Holds.new W2 _ _
  clear hf hfa hin hBA hB2 hR2 hN2 hfx hT2 hxi hbl hx
  unfold fieldV
  generalize fs.length = m at *
  generalize hS : bs x.s = S at *
  have HS := Lib.hid hS
  clear hS
  go_enter Tryd.func5, Tryd.ntmps5
  go_upto_region 3 with fail
  rw [← hW2]
  clear hW2
  go_upto_region 5 with (
    go_at_call 12
    with_reducible refine (HCl.out _ ((Below.refl W2.heap.size W2).alloc (Nat.le_refl _) _)).mono ?_
    rintro e w5 ⟨ao5, c5, rfl, hT5, hg5, b5⟩
    have hX5 := (HX.out S).moves (Moves.ofBelow (S := nobody) b5) (fun h => h)
    rw [hs2] at hX5
    have f3 := hX5.frozen 3
    have e3 := hX5.cell 3)
  have hR5 := (HR2.out.moves ((Moves.refl nobody W2).alloc (.cells #[.int .u8 (x.kind.toNat : Int), .int .i64 x.n, .string S, .slice a2 x.l.length cap2] 28)) (fun h => h)).moves (Moves.ofBelow (S := nobody) b5) (fun h => h)
  obtain ⟨W6, hW6⟩ : ∃ W6, W6 = w5.setCell ⟨w.heap.size + 2, 3, none⟩ (.slice ao5 x.l.length c5) := ⟨_, rfl⟩
  have hX6 := Holds.set hX5 3 (.slice ao5 x.l.length c5)
  have m6 : Moves (fun i => i = w.heap.size + 2) w5 (w5.setCell ⟨w.heap.size + 2, 3, none⟩ (.slice ao5 x.l.length c5)) := (Moves.refl (fun i => i = w.heap.size + 2) w5).setCell (p := ⟨w.heap.size + 2, 3, none⟩) (.inl rfl) _
  have hR6 := hR5.moves m6 (by omega)
  rw [← hW6] at hX6 m6 hR6 ⊢
  have c0 : W6.cell? ⟨w.heap.size + 2, 0, none⟩ = some (.int .u8 (x.kind.toNat : Int)) := hX6.cell 0
  have c1 : W6.cell? ⟨w.heap.size + 2, 1, none⟩ = some (.int .i64 x.n) := hX6.cell 1
  have c2 : W6.cell? ⟨w.heap.size + 2, 2, none⟩ = some (.string S) := hX6.cell 2
  have c3 : W6.cell? ⟨w.heap.size + 2, 3, none⟩ = some (.slice ao5 x.l.length c5) := hX6.cell 3
  have r0 := hR6.cell 0
  have r1 := hR6.cell 1
  have r2 := hR6.cell 2
  have r3 := hR6.cell 3
  have s0 := hR6.frozen 0
  have s1 := hR6.frozen 1
  have s2 := hR6.frozen 2
  have s3 := hR6.frozen 3
  have HR6 := Lib.hid hR6
  have HM6 := Lib.hid m6
  have HT5 := Lib.hid hT5
  have HG5 := Lib.hid hg5
  have hb5 : Below w.heap.size w w5 := HB2.out.trans ((((Below.refl W2.heap.size W2).alloc (Nat.le_refl _) (.cells #[.int .u8 (x.kind.toNat : Int), .int .i64 x.n, .string S, .slice a2 x.l.length cap2] 28)).trans (b5.mono (by simp))).mono HB2.out.size)
  have HB5 := Lib.hid hb5
  have HSz : Hid (W2.heap.size = w.heap.size + 2) := hs2
  clear hR6 m6 hT5 hg5 hb5 b5 hX6 hX5 hR5 hW6 e3 f3 x0 x1 x2 x3 hn2 hs2
  go_wp2_with fail
  have hRf := Holds.set (Holds.set (Holds.set (Holds.set HR6.out 0 (.int .u8 (x.kind.toNat : Int))) 1 (.int .i64 x.n)) 2 (.string S)) 3 (.slice ao5 x.l.length c5)
  have mf : Moves (fun i => i = w.heap.size + 1) W6 _ := ((((Moves.refl (fun i => i = w.heap.size + 1) W6).setCell (p := ⟨w.heap.size + 1, 0, none⟩) (.inl rfl) (.int .u8 (x.kind.toNat : Int))).setCell (p := ⟨w.heap.size + 1, 1, none⟩) (.inl rfl) (.int .i64 x.n)).setCell (p := ⟨w.heap.size + 1, 2, none⟩) (.inl rfl) (.string S)).setCell (p := ⟨w.heap.size + 1, 3, none⟩) (.inl rfl) (.slice ao5 x.l.length c5)
  have mm : Moves (fun i => i = w.heap.size + 1 ∨ i = w.heap.size + 2) w5 _ := (HM6.out.mono fun i h _ => .inr h).trans mf fun i h => .inl (.inl h)
  refine bodyPost_ret (v := .agg #[.int .u8 (x.kind.toNat : Int), .int .i64 x.n, .string S, .slice ao5 x.l.length c5]) ?_ rfl ⟨.slice ao5 x.l.length c5, rfl, ?_, HB5.out.trans (mm.below (by have := HB5.out.size; omega) (fun i h => by omega))⟩
  · exact results_cell_row rfl _ _ (w.heap.size + 1) _ _ (0, 0) _ rfl hRf Tryd.underlying28 rfl (by kernel_rfl)
  · obtain ⟨ao, cap', e, hc⟩ := HT5.out
    refine ⟨ao, cap', e, fun hne => ?_⟩
    obtain ⟨b', off', e1, hb', hcell⟩ := hc hne
    obtain ⟨g, hg, hgl⟩ := HG5.out hne
    rw [List.length_map] at e
    injection e with e2 e3 e4
    rw [e2, e1] at hg
    simp only [Value.ownBlock, Option.some.injEq] at hg
    simp only [World.size_alloc] at hgl
    have := HSz.out
    exact ⟨b', off', e1, Nat.lt_of_lt_of_le hb' mm.size, fun j y hj => (mm.cell (p := ⟨b', off' + j, none⟩) hb' (by show ¬ (b' = _ ∨ b' = _); omega)).trans (hcell j y hj)⟩

set_option maxRecDepth 100000 in
theorem is_any {w : World} {v : Value} {fs : List FieldR} (hv : FieldsAt w v fs) (n num many : Int) :
    Calls Tryd.prog 10 #[msgV n v, .int .i64 num, .int .i64 many] w fun e w' => e = .returned (.bool (decide (n = num) && decide ((fs.length : Int) = many))) ∧ Below w.heap.size w w' := by
  obtain ⟨ao, cap, rfl, hcap, hlen, hin, hf⟩ := hv
  unfold msgV
  have HB := Lib.hid ((Below.refl w.heap.size w).alloc (Nat.le_refl _) (.cells #[.int .i64 n, .slice ao fs.length cap] 24))
  have q1 : (n == num) = decide (n = num) := by by_cases h : n = num <;> simp [h]
  have q2 : ((fs.length : Int) == many) = decide ((fs.length : Int) = many) := by by_cases h : (fs.length : Int) = many <;> simp [h]
  clear hin hf
  generalize decide ((fs.length : Int) = many) = b2 at *
  generalize hb : decide (n = num) = b1 at *
  clear hb
  generalize fs.length = m at *
  cases b1
  · go_enter Tryd.func10, Tryd.ntmps10
    go_wp2_with fail
    go_ret
    exact ⟨rfl, HB.out⟩
  · go_enter Tryd.func10, Tryd.ntmps10
    go_wp2_with fail
    go_ret
    exact ⟨by simp, HB.out⟩
end Go.Proofs.YtkdbmfgbokbnfaaDoor
