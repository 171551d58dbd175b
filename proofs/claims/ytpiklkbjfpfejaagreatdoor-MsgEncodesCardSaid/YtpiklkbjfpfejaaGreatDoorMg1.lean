/- A message in memory; which messages are few. -/
import Derived.Test.YtpiklkbjfpfejaaGreatDoorMv5
namespace Go.Proofs.YtpiklkbjfpfejaaGreatDoor
open Go.RowKit

/-- The k-th field lies in block b from off on. -/
def FieldAt (w : World) (b off k : Nat) (x : FieldR) : Prop :=
  w.cell? ⟨b, off + k * 4, none⟩ = some (.int .u8 (x.kind.toNat : Int)) ∧ w.cell? ⟨b, off + k * 4 + 1, none⟩ = some (.int .i64 x.n) ∧ w.cell? ⟨b, off + k * 4 + 2, none⟩ = some (.string (bs x.s)) ∧
    ∃ ao cap, w.cell? ⟨b, off + k * 4 + 3, none⟩ = some (.slice ao x.l.length cap) ∧ x.l.length ≤ cap ∧ TextsAt w (.slice ao x.l.length cap) (x.l.map bs)
/-- What every field of an argument is: in int's range, and no list longer than memory holds. -/
structure FieldIn (x : FieldR) : Prop where
  n : -9223372036854775808 ≤ x.n ∧ x.n ≤ 9223372036854775807
  s : x.s.length ≤ 9223372036854775807
  l : x.l.length ≤ 8796093022208
  ls : ∀ y ∈ x.l, y.length ≤ 9223372036854775807
def FieldsAt (w : World) (v : Value) (fs : List FieldR) : Prop :=
  ∃ ao cap, v = .slice ao fs.length cap ∧ fs.length ≤ cap ∧ fs.length ≤ 9223372036854775807 ∧ (∀ x ∈ fs, FieldIn x) ∧ (fs ≠ [] → ∃ b off, ao = some ⟨b, off, none⟩ ∧ b < w.heap.size ∧ ∀ k x, fs[k]? = some x → FieldAt w b off k x)
def zeroF : FieldR := ⟨0, 0, [], []⟩
def msgV (num : Int) (v : Value) : Value := .agg #[.int .i64 num, v]
theorem FieldAt.below {w w' : World} {b off k : Nat} {x : FieldR} (h : FieldAt w b off k x) (hb : b < w.heap.size) (hw : Below w.heap.size w w') : FieldAt w' b off k x := by
  obtain ⟨h0, h1, h2, ao, cap, h3, h4, h5⟩ := h
  exact ⟨(hw.cell (p := ⟨b, off + k * 4, none⟩) hb).trans h0, (hw.cell (p := ⟨b, off + k * 4 + 1, none⟩) hb).trans h1, (hw.cell (p := ⟨b, off + k * 4 + 2, none⟩) hb).trans h2, ao, cap, (hw.cell (p := ⟨b, off + k * 4 + 3, none⟩) hb).trans h3, h4, h5.below hw⟩
theorem FieldsAt.below {w w' : World} {v : Value} {fs : List FieldR} (h : FieldsAt w v fs) (hw : Below w.heap.size w w') : FieldsAt w' v fs := by
  obtain ⟨ao, cap, h0, h1, h2, h3, h4⟩ := h
  refine ⟨ao, cap, h0, h1, h2, h3, fun hne => ?_⟩
  obtain ⟨b, off, e, hb, hf⟩ := h4 hne
  exact ⟨b, off, e, Nat.lt_of_lt_of_le hb hw.size, fun k x hk => (hf k x hk).below hb hw⟩
/-- A field that statements go through. -/
structure FewF (m : Int) (x : FieldR) : Prop where
  l : x.l.length ≤ 20
  s : (x.s.length : Int) ≤ m
  ls : ∀ y ∈ x.l, (y.length : Int) ≤ m

def Few7Post (fs : List FieldR) (most : Int) (w : World) (e : Ending) (w' : World) : Prop := ∃ b : Bool, e = .returned (.bool b) ∧ (b = true → fs.length ≤ 20 ∧ ∀ x ∈ fs, FewF most x) ∧ Below w.heap.size w w'
set_option maxHeartbeats 2000000 in
set_option maxRecDepth 100000 in
theorem few7_any {w : World} {v : Value} {fs : List FieldR} (hv : FieldsAt w v fs) (num most : Int) :
    Calls Tryz.prog 6 #[msgV num v, .int .i64 most] w (Few7Post fs most w) := by
  obtain ⟨ao, cap, rfl, hcap, hlen, hin, hf⟩ := hv
  unfold msgV
  by_cases h20 : 20 < fs.length
  · have q20 : (fs.length : Int) > 20 := by omega
    have HF := Lib.hid ((Below.refl w.heap.size w).alloc (Nat.le_refl _) (.cells #[.int .i64 num, .slice ao fs.length cap] 24))
    clear hf hin h20
    generalize fs.length = m at *
    go_enter Tryz.func6, Tryz.ntmps6
    go_wp2_with fail
    go_ret
    exact ⟨false, rfl, (fun h => by cases h), HF.out⟩
  · have q20 : ¬ (fs.length : Int) > 20 := by omega
    obtain ⟨WA, hWA⟩ : ∃ WA, WA = w.alloc (.cells #[.int .i64 num, .slice ao fs.length cap] 24) := ⟨_, rfl⟩
    have hHA : Holds WA w.heap.size 24 #[.int .i64 num, .slice ao fs.length cap] := by rw [hWA]; exact Holds.new w _ _
    have hBA : Below w.heap.size w WA := by rw [hWA]; exact (Below.refl w.heap.size w).alloc (Nat.le_refl _) _
    have HHA := Lib.hid hHA
    have HBA := Lib.hid hBA
    have HN : Hid (∀ W, Below WA.heap.size WA W → W.cell? ⟨w.heap.size, 1, none⟩ = some (.slice ao fs.length cap)) := fun W hb => (hb.cell (p := ⟨w.heap.size, 1, none⟩) HHA.out.lt).trans (HHA.out.cell 1)
    have HFl : Hid (∀ W, Below WA.heap.size WA W → ∀ k x, fs[k]? = some x → ∃ b off, ao = some ⟨b, off, none⟩ ∧ FieldAt W b off k x) := fun W hb k x hk => by
      obtain ⟨b, off, rfl, hbl, h⟩ := hf (by rintro rfl; simp at hk)
      exact ⟨b, off, rfl, (h k x hk).below hbl (HBA.out.trans (hb.mono HBA.out.size))⟩
    have HIn := Lib.hid hin
    have HL20 := Lib.hid (Nat.le_of_not_lt h20)
    clear hf hin hHA hBA h20 hlen
    have HLn : Hid (∃ m, m = fs.length) := ⟨_, rfl⟩
    go_enter Tryz.func6, Tryz.ntmps6
    go_wp2_with fail
    rw [← hWA]
    clear hWA HLn
    go_loopw [5, 6] (fun n i wr => ∃ (z : Int) (k : Nat), k ≤ fs.length ∧ n = .int .i64 z ∧ i = .int .i64 (k : Int) ∧ (∀ x ∈ fs.take k, FewF most x) ∧ wr = WA) (fun _ i _ => fs.length - (intOf i).toNat)
    case atStart => exact ⟨0, 0, Nat.zero_le _, rfl, rfl, by simp, rfl⟩
    case round =>
      obtain ⟨z, k, hk, rfl, rfl, hall, rfl⟩ := hrel
      have HAll := Lib.hid hall
      clear hall
      have y0 := HN.out _ (Below.refl _ _)
      by_cases hlt : k < fs.length
      · obtain ⟨x, hx⟩ : ∃ x, fs[k]? = some x := ⟨_, List.getElem?_eq_getElem hlt⟩
        obtain ⟨b, off, rfl, y1, y2, y3, a2, cap2, y4, hcap2, hT⟩ := HFl.out _ (Below.refl _ _) k x hx
        have hxi := HIn.out x (List.mem_of_getElem? hx)
        have HXs : Hid (FewF most x → ∀ y ∈ fs.take (k + 1), FewF most y) := fun h y hy => by
          obtain ⟨hk', rfl⟩ := List.getElem?_eq_some_iff.1 hx
          rw [List.take_succ_eq_append_getElem hk'] at hy
          rcases List.mem_append.1 hy with hy | hy
          · exact HAll.out y hy
          · simp at hy; rw [hy]; exact h
        have hsz := bs_size x.s
        have hsl := hxi.s
        have hll := hxi.l
        have HXL := Lib.hid hxi.ls
        obtain ⟨_, _, hTe, hTc⟩ := hT
        have HTc : Hid (∀ j y, x.l[j]? = some y → ∃ b2 o2, a2 = some ⟨b2, o2, none⟩ ∧ wr.cell? ⟨b2, o2 + j, none⟩ = some (.string (bs y))) := fun j y hj => by
          obtain ⟨b2, o2, e, _, h⟩ := hTc (by intro h; simp at h; rw [h] at hj; simp at hj)
          simp only [Value.slice.injEq] at hTe
          exact ⟨b2, o2, by rw [hTe.1, e], h j (bs y) (by simp [hj])⟩
        have HX0 := Lib.hid hx
        clear hTc hTe hx hxi
        by_cases hl20 : 20 < x.l.length
        · have q1 : (x.l.length : Int) > 20 := by omega
          generalize x.l.length = xl at *
          generalize x.s.length = xsl at *
          generalize bs x.s = S at *
          go_wp2_with fail
          go_ret
          exact ⟨false, rfl, (fun h => by cases h), HBA.out⟩
        have q1 : ¬ (x.l.length : Int) > 20 := by omega
        by_cases hs : most < (x.s.length : Int)
        · have q2 : (x.s.length : Int) > most := hs
          clear hl20
          generalize x.l.length = xl at *
          generalize x.s.length = xsl at *
          generalize bs x.s = S at *
          go_wp2_with fail
          go_ret
          exact ⟨false, rfl, (fun h => by cases h), HBA.out⟩
        have q2 : ¬ (x.s.length : Int) > most := hs
        have HQ : Hid ((∀ y ∈ x.l, (y.length : Int) ≤ most) → FewF most x) := fun h => ⟨by omega, by omega, h⟩
        clear hl20 hs
        generalize x.s.length = xsl at *
        generalize bs x.s = S at *
        go_wp2_with fail
        go_loopw [5, 7] (fun n i wi => ∃ (z : Int) (j : Nat), j ≤ x.l.length ∧ n = .int .i64 z ∧ i = .int .i64 (j : Int) ∧ (∀ y ∈ x.l.take j, (y.length : Int) ≤ most) ∧ wi = wr) (fun _ i _ => x.l.length - (intOf i).toNat)
        case atStart => exact ⟨_, 0, Nat.zero_le _, rfl, rfl, by simp, rfl⟩
        case round =>
          obtain ⟨z2, j, hj, rfl, rfl, hal, rfl⟩ := hrel
          by_cases hjl : j < x.l.length
          · obtain ⟨y, hy⟩ : ∃ y, x.l[j]? = some y := ⟨_, List.getElem?_eq_getElem hjl⟩
            obtain ⟨b2, o2, rfl, y5⟩ := HTc.out j y hy
            have hyz := bs_size y
            have hyl := HXL.out y (List.mem_of_getElem? hy)
            have HYs : Hid ((y.length : Int) ≤ most → ∀ u ∈ x.l.take (j + 1), (u.length : Int) ≤ most) := fun h u hu => by
              obtain ⟨hj', rfl⟩ := List.getElem?_eq_some_iff.1 hy
              rw [List.take_succ_eq_append_getElem hj'] at hu
              rcases List.mem_append.1 hu with hu | hu
              · exact hal u hu
              · simp at hu; rw [hu]; exact h
            clear hal hy
            by_cases hb : most < (y.length : Int)
            · have q3 : (y.length : Int) > most := hb
              generalize x.l.length = xl at *
              generalize bs y = Y at *
              generalize y.length = yl at *
              go_wp2_with fail
              go_ret
              exact ⟨false, rfl, (fun h => by cases h), HBA.out⟩
            · have q3 : ¬ (y.length : Int) > most := hb
              have HY2 := Lib.hid (HYs.out (by omega))
              clear hb
              generalize bs y = Y at *
              generalize y.length = yl at *
              go_wp2_with fail
              go_roundw
              case rel => exact ⟨_, j + 1, by omega, rfl, by go_num, HY2.out, trivial⟩
              case measure => simp [intOf]; omega
          · have hjx : j = x.l.length := by omega
            have hx2 : FewF most x := HQ.out (by rw [hjx, List.take_length] at hal; exact hal)
            have HX2 := Lib.hid (HXs.out hx2)
            subst hjx
            clear hal hjl hx2
            go_wp2_with fail
            go_roundw
            case rel => exact ⟨_, k + 1, by omega, rfl, by go_num, HX2.out, trivial⟩
            case measure => simp [intOf]; omega
      · have hkl : k = fs.length := by omega
        have HEnd : Hid (fs.length ≤ 20 ∧ ∀ x ∈ fs, FewF most x) := ⟨HL20.out, by have := HAll.out; rw [hkl, List.take_length] at this; exact this⟩
        subst hkl
        clear hlt
        go_wp2_with fail
        go_ret
        exact ⟨_, rfl, fun _ => HEnd.out, HBA.out⟩
end Go.Proofs.YtpiklkbjfpfejaaGreatDoor
