/- Part 16 of what the statement wants. -/
import Derived.Deep.Cut
import Derived.Test.YtpkkeeblgbdfdaaDoorPk15
namespace Go.Proofs.YtpkkeeblgbdfdaaDoor
open Go.RowKit Go.Maps Go.WideMaps

def firstBad (nm : Nat → ByteArray) (hb : Nat → Bool) (n : Nat) : ByteArray := match (List.range n).find? (fun i => !hb i) with
  | some i => nm i
  | none => ⟨#[]⟩
theorem firstBad_none {nm : Nat → ByteArray} {hb : Nat → Bool} {n : Nat} (h : ∀ j < n, hb j = true) : firstBad nm hb n = ⟨#[]⟩ := by
  have : (List.range n).find? (fun i => !hb i) = none := List.find?_eq_none.2 fun i hi => by simp [h i (List.mem_range.1 hi)]
  unfold firstBad
  rw [this]
theorem firstBad_hit {nm : Nat → ByteArray} {hb : Nat → Bool} {n k : Nat} (h : ∀ j < k, hb j = true) (hk : k < n) (h0 : hb k = false) : firstBad nm hb n = nm k := by
  have : (List.range n).find? (fun i => !hb i) = some k := by
    obtain ⟨m, rfl⟩ : ∃ m, n = k + (m + 1) := ⟨n - k - 1, by omega⟩
    rw [List.range_add, List.find?_append, List.find?_eq_none.2 fun i hi => by simp [h i (List.mem_range.1 hi)], Option.none_or, List.range_succ_eq_map, List.map_cons, List.find?_cons]
    simp [h0]
  unfold firstBad
  rw [this]
set_option maxRecDepth 100000 in
theorem sizeRule : (Tryd.prog.info? 66).map (·.size) = some 2 := by kernel_rfl
/-- Rules as what they answer of an event. -/
def RulesAt (w : World) (g : Nat) (R : Array Value) (nm : Nat → ByteArray) (hb : Nat → Bool) : Prop :=
  g < w.heap.size ∧ ∀ i < 10, w.cell? ⟨g, i * 2, none⟩ = some (.string (nm i)) ∧ ∃ (f : FuncId) (cp : Array Value), w.cell? ⟨g, i * 2 + 1, none⟩ = some (.func (.func f) #[] cp) ∧ (∀ args W, (callFunc f args).run Tryd.prog W = .ok (.enter f args) W) ∧ ∀ W, Below w.heap.size w W → Calls Tryd.prog f (#[.agg R] ++ cp) W fun e w' => e = .returned (.bool (hb i)) ∧ Below W.heap.size W w'
set_option maxHeartbeats 4000000 in
set_option maxRecDepth 100000 in
theorem violated_any {w : World} {g : Nat} {R : Array Value} {nm : Nat → ByteArray} {hb : Nat → Bool} (h : RulesAt w g R nm hb) (hR : R.size = 34) (c : Nat) :
    Calls Tryd.prog 15 #[.slice (some ⟨g, 0, none⟩) 10 c, .agg R] w fun e w' => e = .returned (.string (firstBad nm hb 10)) ∧ Below w.heap.size w w' := by
  obtain ⟨W, hW⟩ : ∃ W, Hid (W = w.alloc (.cells R 45)) := ⟨_, Lib.hid rfl⟩
  have BW : Hid (Below w.heap.size w W) := by
    show Below _ _ _
    rw [hW.out]
    exact (Below.refl _ w).alloc (Nat.le_refl _) _
  have HE : Hid (Holds W w.heap.size 45 R) := by
    show Holds _ _ _ _
    rw [hW.out]
    exact Holds.new w _ _
  have HRl := Lib.hid h
  have HRs := Lib.hid hR
  have HN : Hid ((∀ j < 10, hb j = true) → firstBad nm hb 10 = ⟨#[]⟩) := fun hh => firstBad_none hh
  have HH : Hid (∀ k < 10, (∀ j < k, hb j = true) → hb k = false → firstBad nm hb 10 = nm k) := fun k hk hh h0 => firstBad_hit hh hk h0
  clear h hR
  generalize firstBad nm hb 10 = res at *
  obtain ⟨E, hE⟩ : ∃ E, Hid (E = w.heap.size) := ⟨_, Lib.hid rfl⟩
  rw [← hE.out] at HE
  go_enter Tryd.func15, Tryd.ntmps15
  go_upto_region 1 with fail
  rw [← hW.out, ← hE.out]
  clear hW hE
  go_wp2_with fail
  go_loopw [9] (fun i wr => ∃ k : Nat, k ≤ 10 ∧ i = .int .i64 k ∧ Hid (∀ j < k, hb j = true) ∧ Hid (Below W.heap.size W wr)) (fun i _ => 10 - (intOf i).toNat)
  case atStart => exact ⟨0, Nat.zero_le _, rfl, Lib.hid fun j hj => absurd hj (by omega), Lib.hid (Below.refl _ _)⟩
  case round =>
    obtain ⟨k, hk, rfl, HA, HB⟩ := hrel
    by_cases hlt : k < 10
    · obtain ⟨c1, f, cp, c2, hcf, hcall⟩ := HRl.out.2 k hlt
      have hgl := HRl.out.1
      have HBw : Hid (Below w.heap.size w wr) := Lib.hid (BW.out.trans (HB.out.mono BW.out.size))
      have d1 : wr.cell? ⟨g, k * 2, none⟩ = some (.string (nm k)) := (HBw.out.cell (p := ⟨g, k * 2, none⟩) hgl).trans c1
      have d2 : wr.cell? ⟨g, k * 2 + 1, none⟩ = some (.func (.func f) #[] cp) := (HBw.out.cell (p := ⟨g, k * 2 + 1, none⟩) hgl).trans c2
      have HE1 : Hid (Holds wr E 45 R) := Lib.hid ((HB.out.block _ HE.out.lt).trans HE.out)
      have HCl := Lib.hid hcall
      have hki : (k : Int) < 10 := by omega
      have HNx : Hid (hb k = true → ∀ j < k + 1, hb j = true) := fun e j hj => by
        rcases Nat.lt_or_eq_of_le (Nat.le_of_lt_succ hj) with h | rfl
        · exact HA.out j h
        · exact e
      have HHk := Lib.hid fun h0 => HH.out k hlt HA.out h0
      have hcf1 := hcf (#[.agg R] ++ cp)
      clear c1 c2 hcall hcf HN HH HA HRl hgl
      generalize hb k = b at *
      generalize nm k = nk at *
      have HX := Lib.hid (holds_load32 (Holds.new wr 66 #[.string nk, .func (.func f) #[] cp]))
      go_upto_region 4 with (first
        | (refine wpList_store_new rfl 66 _ _ rfl wr.heap.size _ #[.string nk, .func (.func f) #[] cp] 66 rfl rfl rfl sizeRule rfl (by simp [Value.oneCell']) ?_))
      have HB2 : Hid (Below w.heap.size w (wr.alloc (.cells #[.string nk, .func (.func f) #[] cp] 66))) := Lib.hid (HBw.out.alloc HBw.out.size _)
      have HB3 : Hid (Below W.heap.size W (wr.alloc (.cells #[.string nk, .func (.func f) #[] cp] 66))) := Lib.hid (HB.out.alloc HB.out.size _)
      have HS : Hid (Holds (wr.alloc (.cells #[.string nk, .func (.func f) #[] cp] 66)) wr.heap.size 66 #[.string nk, .func (.func f) #[] cp]) := Lib.hid (Holds.new wr _ _)
      have HE2 : Hid (Holds (wr.alloc (.cells #[.string nk, .func (.func f) #[] cp] 66)) E 45 R) := Lib.hid ((heap_alloc_old _ _ HE1.out.lt).trans HE1.out)
      obtain ⟨X, hX⟩ : ∃ X, Hid (X = wr.heap.size) := ⟨_, Lib.hid rfl⟩
      rw [← hX.out] at HS ⊢
      clear hX HE1 d1 d2 HX HBw HB
      generalize wr.alloc (.cells #[.string nk, .func (.func f) #[] cp] 66) = W2 at *
      have s1 : W2.cell? ⟨X, 0, none⟩ = some (.string nk) := HS.out.cell 0
      have s2 : W2.cell? ⟨X, 1, none⟩ = some (.func (.func f) #[] cp) := HS.out.cell 1
      have HC2 := Lib.hid (HCl.out W2 HB2.out)
      have tok : Hid True := trivial
      clear HCl
      cases b with
      | false =>
        have HF := Lib.hid (HHk.out rfl)
        clear HHk HNx
        go_wp2_with (first
          | (clear tok; refine wpList_load_row rfl 45 _ rfl E rfl 45 R (0, 0) _ (by exact HE2.out) Tryd.underlying45 rfl (by rw [HRs.out]; exact sizeEvent) ?_)
          | (refine HC2.out.mono ?_; rintro e w3 ⟨rfl, b3⟩; have B3 := Lib.hid (HB3.out.trans (b3.mono HB3.out.size)); have s3 := (b3.cell (p := ⟨X, 0, none⟩) HS.out.lt).trans s1; clear b3))
        go_ret
        exact ⟨by rw [HF.out]; rfl, BW.out.trans (B3.out.mono BW.out.size)⟩
      | true =>
        have HF := Lib.hid (HNx.out rfl)
        clear HHk HNx
        go_wp2_with (first
          | (clear tok; refine wpList_load_row rfl 45 _ rfl E rfl 45 R (0, 0) _ (by exact HE2.out) Tryd.underlying45 rfl (by rw [HRs.out]; exact sizeEvent) ?_)
          | (refine HC2.out.mono ?_; rintro e w3 ⟨rfl, b3⟩; have B3 := Lib.hid (HB3.out.trans (b3.mono HB3.out.size)); clear b3))
        go_roundw
        case rel => exact ⟨k + 1, by omega, by go_num, HF, B3⟩
        case measure => simp [intOf]; omega
    · have hkl : k = 10 := by omega
      subst hkl
      have HF := Lib.hid (HN.out HA.out)
      clear HN HH HA HRl hlt
      go_wp2_with fail
      go_ret
      exact ⟨by rw [HF.out]; rfl, BW.out.trans (HB.out.mono BW.out.size)⟩
end Go.Proofs.YtpkkeeblgbdfdaaDoor
