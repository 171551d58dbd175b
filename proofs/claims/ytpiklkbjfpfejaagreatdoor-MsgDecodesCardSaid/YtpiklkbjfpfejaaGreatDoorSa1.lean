/- Same of two messages that read as the same fields. -/
import Derived.Test.YtpiklkbjfpfejaaGreatDoorMg1
import Derived.Test.YtpiklkbjfpfejaaGreatDoorNSm
import Derived.Deep.RegionHeld3
namespace Go.Proofs.YtpiklkbjfpfejaaGreatDoor
open Go.RowKit

set_option maxHeartbeats 2000000 in
set_option maxRecDepth 100000 in
theorem same7_any {w : World} {v v' : Value} {fs : List FieldR} (h : FieldsAt w v fs) (h' : FieldsAt w v' fs) (hl : fs.length ≤ 1000) (num : Int) :
    Calls Tryz.prog 12 #[msgV num v, msgV num v'] w fun e w' => e = .returned (.bool true) ∧ Below w.heap.size w w' := by
  obtain ⟨ao, cap, rfl, hcap, hlen, hin, hf⟩ := h
  obtain ⟨ao', cap', rfl, hcap', hlen', hin', hf'⟩ := h'
  unfold msgV
  have hA := Holds.new w 24 #[.int .i64 num, .slice ao fs.length cap]
  have hB := Holds.new (w.alloc (.cells #[.int .i64 num, .slice ao fs.length cap] 24)) 24 #[.int .i64 num, .slice ao' fs.length cap']
  rw [World.size_alloc] at hB
  have HA : Hid (Holds ((w.alloc (.cells #[.int .i64 num, .slice ao fs.length cap] 24)).alloc (.cells #[.int .i64 num, .slice ao' fs.length cap'] 24)) w.heap.size 24 #[.int .i64 num, .slice ao fs.length cap]) := hA.moves ((Moves.refl nobody _).alloc _) (fun h => h)
  have HB := Lib.hid hB
  have HW0 : Hid (Below w.heap.size w ((w.alloc (.cells #[.int .i64 num, .slice ao fs.length cap] 24)).alloc (.cells #[.int .i64 num, .slice ao' fs.length cap'] 24))) := ((Below.refl _ w).alloc (Nat.le_refl _) _).alloc (by simp) _
  have HF : Hid (∀ W, Below w.heap.size w W → ∀ k (hk : k < fs.length), ∃ b off b' off', ao = some ⟨b, off, none⟩ ∧ ao' = some ⟨b', off', none⟩ ∧ FieldAt W b off k fs[k] ∧ FieldAt W b' off' k fs[k] ∧ b < w.heap.size ∧ b' < w.heap.size) := fun W hb k hk => by
    have hne : fs ≠ [] := by rintro rfl; simp at hk
    obtain ⟨b, off, e, hbl, hfa⟩ := hf hne
    obtain ⟨b', off', e', hbl', hfa'⟩ := hf' hne
    exact ⟨b, off, b', off', e, e', (hfa k _ (List.getElem?_eq_getElem hk)).below hbl hb, (hfa' k _ (List.getElem?_eq_getElem hk)).below hbl' hb, hbl, hbl'⟩
  have HIn : Hid (∀ k (hk : k < fs.length), fs[k].l.length ≤ maxLen) := fun k hk => by have := (hin _ (List.getElem_mem hk)).l; unfold maxLen; omega
  clear hA hB hf hf' hin hin'
  go_enter Tryz.func12, Tryz.ntmps12
  go_wp2_with fail
  have hW0 := HW0.out
  generalize (w.alloc (.cells #[.int .i64 num, .slice ao fs.length cap] 24)).alloc (.cells #[.int .i64 num, .slice ao' fs.length cap'] 24) = W0 at *
  go_loopw [5] (fun i wr => ∃ k : Nat, k ≤ fs.length ∧ i = .int .i64 k ∧ Below W0.heap.size W0 wr) (fun i _ => fs.length - (intOf i).toNat)
  case atStart => exact ⟨0, Nat.zero_le _, rfl, Below.refl _ _⟩
  case round =>
    obtain ⟨k, hk, rfl, hb⟩ := hrel
    have hAr := HA.out.moves (Moves.ofBelow (S := nobody) hb) (fun h => h)
    have hBr := HB.out.moves (Moves.ofBelow (S := nobody) hb) (fun h => h)
    have a1 : wr.cell? ⟨w.heap.size, 1, none⟩ = some (.slice ao fs.length cap) := hAr.cell 1
    have b1 : wr.cell? ⟨w.heap.size + 1, 1, none⟩ = some (.slice ao' fs.length cap') := hBr.cell 1
    have hbw := hW0.trans (hb.mono hW0.size)
    by_cases hlt : k < fs.length
    · obtain ⟨b, off, b', off', rfl, rfl, hx, hy, hbl, hbl'⟩ := HF.out wr hbw k hlt
      have HL := Lib.hid (HIn.out k hlt)
      have hsz : w.heap.size + 2 ≤ wr.heap.size := by have := HB.out.lt; have := hb.size; omega
      generalize fs[k] = x at *
      obtain ⟨x0, x1, x2, p, c, x3, _, hT⟩ := hx
      obtain ⟨y0, y1, y2, p', c', y3, _, hT'⟩ := hy
      have HT := Lib.hid hT
      have HT' := Lib.hid hT'
      have HBk := Lib.hid hb
      have a1d : wr.drew.cell? ⟨w.heap.size, 1, none⟩ = some (.slice (some ⟨b, off, none⟩) fs.length cap) := a1
      have b1d : wr.drew.cell? ⟨w.heap.size + 1, 1, none⟩ = some (.slice (some ⟨b', off', none⟩) fs.length cap') := b1
      have x0d : wr.drew.cell? ⟨b, off + k * 4, none⟩ = some (.int .u8 (x.kind.toNat : Int)) := x0
      have x1d : wr.drew.cell? ⟨b, off + k * 4 + 1, none⟩ = some (.int .i64 x.n) := x1
      have x2d : wr.drew.cell? ⟨b, off + k * 4 + 2, none⟩ = some (.string (bs x.s)) := x2
      have x3d : wr.drew.cell? ⟨b, off + k * 4 + 3, none⟩ = some (.slice p x.l.length c) := x3
      have y0d : wr.drew.cell? ⟨b', off' + k * 4, none⟩ = some (.int .u8 (x.kind.toNat : Int)) := y0
      have y1d : wr.drew.cell? ⟨b', off' + k * 4 + 1, none⟩ = some (.int .i64 x.n) := y1
      have y2d : wr.drew.cell? ⟨b', off' + k * 4 + 2, none⟩ = some (.string (bs x.s)) := y2
      have y3d : wr.drew.cell? ⟨b', off' + k * 4 + 3, none⟩ = some (.slice p' x.l.length c') := y3
      clear hT hT' hAr hBr hb hbw
      generalize bs x.s = S at *
      have HSm : Hid (∀ o1 o2 : Obj, Calls Tryz.prog 31 #[.slice p x.l.length c, .slice p' x.l.length c'] ((wr.alloc o1).alloc o2).drew fun e w' => e = .returned (.bool true) ∧ Below W0.heap.size W0 w') := fun o1 o2 => by
        have hb5 : Below wr.heap.size wr ((wr.alloc o1).alloc o2).drew := (((Below.refl _ wr).alloc (Nat.le_refl _) o1).alloc (by simp) o2).drew
        refine (same_any (HT.out.below hb5) (HT'.out.below hb5) (by rw [List.length_map]; exact HL.out)).mono fun e w' ⟨h1, h2⟩ => ⟨by rw [h1]; simp, ?_⟩
        exact (HBk.out.trans (hb5.mono HBk.out.size)).trans (h2.mono (by have := HBk.out.size; have := hb5.size; omega))
      have u1 := World.new_ne wr _ a1
      have u2 := World.new_ne wr _ b1
      have u3 := World.new_ne wr _ x0
      have u4 := World.new_ne wr _ y0
      simp only at u1 u2 u3 u4
      go_wp2_with fail
      go_region_held3 (fun w' => w'.cell? ⟨w.heap.size, 1, none⟩ = some (.slice (some ⟨b, off, none⟩) fs.length cap) ∧ w'.cell? ⟨w.heap.size + 1, 1, none⟩ = some (.slice (some ⟨b', off', none⟩) fs.length cap') ∧ w'.cell? ⟨b, off + k * 4, none⟩ = some (.int .u8 (x.kind.toNat : Int)) ∧ w'.cell? ⟨b, off + k * 4 + 1, none⟩ = some (.int .i64 x.n) ∧ w'.cell? ⟨b, off + k * 4 + 2, none⟩ = some (.string S) ∧ w'.cell? ⟨b, off + k * 4 + 3, none⟩ = some (.slice p x.l.length c) ∧ w'.cell? ⟨b', off' + k * 4, none⟩ = some (.int .u8 (x.kind.toNat : Int)) ∧ w'.cell? ⟨b', off' + k * 4 + 1, none⟩ = some (.int .i64 x.n) ∧ w'.cell? ⟨b', off' + k * 4 + 2, none⟩ = some (.string S) ∧ w'.cell? ⟨b', off' + k * 4 + 3, none⟩ = some (.slice p' x.l.length c')) (go_keep) (fail)
      all_goals
        go_wp2_with (go_at_call 31; refine (HSm.out _ _).mono ?_; rintro e' w7 ⟨rfl, b7⟩)
        go_roundw
        case rel => exact ⟨k + 1, by omega, by go_num, b7⟩
        case measure => simp [intOf]; omega
    · have hkl : k = fs.length := by omega
      have HBe := Lib.hid hbw
      clear hAr hBr hb hbw
      go_wp2_with fail
      go_ret
      exact ⟨rfl, HBe.out⟩
end Go.Proofs.YtpiklkbjfpfejaaGreatDoor
