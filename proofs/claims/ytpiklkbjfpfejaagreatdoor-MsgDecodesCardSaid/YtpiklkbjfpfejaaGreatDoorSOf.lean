/- The row of a number, the fitting format and the class by the reference; Class and Known of the code. -/
import Derived.Test.YtpiklkbjfpfejaaGreatDoorSRef
import Derived.Test.YtpiklkbjfpfejaaGreatDoorSWord
namespace Go.Proofs.YtpiklkbjfpfejaaGreatDoor
open Go.RowKit

def ofP (n : Int) : RowT := (rowP n).getD (0, ⟨#[]⟩, [])
theorem ofP_forms (n : Int) : (ofP n).2.2 = formsP n := by unfold ofP formsP; cases rowP n <;> rfl
theorem ofP_word (n : Int) : (ofP n).2.1 = wordP n := by unfold ofP wordP; cases rowP n <;> rfl

set_option maxRecDepth 100000 in
theorem of_any (w : World) (n : Int) : Calls Tryz.prog 22 #[.int .i64 n] w fun e w' => ∃ v, e = .returned (.agg #[.int .i64 (ofP n).1, .string (ofP n).2.1, v]) ∧ TextsAt w' v (ofP n).2.2 ∧ Below w.heap.size w w' := by
  have HH : Hid (∀ (k : Nat) (hk : k < tableP.length), (∀ x ∈ tableP.take k, (x.1 == n) = false) → (tableP[k].1 == n) = true → rowP n = some tableP[k]) := fun k hk => rowP_hit hk
  have HE := Lib.hid (@rowP_none n)
  have hlen : tableP.length = 19 := rfl
  have HT := Lib.hid table_any
  generalize tableP = l at *
  go_enter Tryz.func22, Tryz.ntmps22
  go_wp2_with (go_at_call 39; refine (HT.out _).mono ?_; rintro e w1 ⟨b, rfl, hrow, hbel⟩)
  have hbw : Below w.heap.size w w1 := ((Below.refl _ _).alloc (Nat.le_refl _) _).trans (hbel.mono (by simp))
  have hH : Holds w1 w.heap.size 58 #[.int .i64 0, .string ⟨#[]⟩, .slice none 0 0] := by
    have := Holds.new w 58 #[.int .i64 0, .string ⟨#[]⟩, .slice none 0 0]
    exact (hbel.block _ (by simp)).trans this
  simp only [World.size_alloc] at hrow
  have HR := Lib.hid hrow
  have HBW := Lib.hid hbw
  have hbl := hrow.1
  have hbn := hrow.2.1
  clear hrow hbel hbw
  go_loopw [4] (fun i wr => ∃ k : Nat, k ≤ 19 ∧ i = .int .i64 k ∧ (∀ x ∈ l.take k, (x.1 == n) = false) ∧ wr = w1) (fun i _ => 19 - (intOf i).toNat)
  case atStart => exact ⟨0, Nat.zero_le _, rfl, by simp, rfl⟩
  case round =>
    obtain ⟨k, hk, rfl, htk, rfl⟩ := hrel
    have c0 := hH.cell 0
    have c1 := hH.cell 1
    have c2 := hH.cell 2
    have z0 := hH.frozen 0
    have z1 := hH.frozen 1
    have z2 := hH.frozen 2
    by_cases hlt : k < 19
    · have hkl : k < l.length := by omega
      obtain ⟨x, hx⟩ : ∃ x, x = l[k] := ⟨_, rfl⟩
      obtain ⟨d0, d1, c, hcb, d2, htx⟩ := HR.out.2.2 k x (by rw [hx]; exact List.getElem?_eq_getElem hkl)
      have HX := Lib.hid htx
      have HN : Hid ((x.1 == n) = false → ∀ y ∈ l.take (k + 1), (y.1 == n) = false) := fun e => take_all hkl htk (by rw [← hx]; exact e)
      have HTT : Hid ((x.1 == n) = true → rowP n = some x) := fun e => by
        show _ = _
        rw [hx]; exact HH.out k hkl htk (by rw [← hx]; exact e)
      obtain ⟨xn, xs, xf⟩ := x
      clear hx htk htx
      simp only at d0 d1 d2
      cases hm : (xn == n) with
      | true =>
        have hS := Holds.set (Holds.set (Holds.set hH 0 (.int .i64 xn)) 1 (.string xs)) 2 (.slice (some ⟨c, 0, none⟩) xf.length xf.length)
        have mf : Moves (fun i => i = w.heap.size) wr _ := (((Moves.refl (fun i => i = w.heap.size) wr).setCell (p := ⟨w.heap.size, 0, none⟩) (.inl rfl) (.int .i64 xn)).setCell (p := ⟨w.heap.size, 1, none⟩) (.inl rfl) (.string xs)).setCell (p := ⟨w.heap.size, 2, none⟩) (.inl rfl) (.slice (some ⟨c, 0, none⟩) xf.length xf.length)
        have HE : Hid (ofP n = (xn, xs, xf)) := by
          show _ = _
          unfold ofP
          rw [HTT.out hm]; rfl
        have HO : Hid (TextsAt (((wr.setCell ⟨w.heap.size, 0, none⟩ (.int .i64 xn)).setCell ⟨w.heap.size, 1, none⟩ (.string xs)).setCell ⟨w.heap.size, 2, none⟩ (.slice (some ⟨c, 0, none⟩) xf.length xf.length)) (.slice (some ⟨c, 0, none⟩) xf.length xf.length) xf ∧ Below w.heap.size w (((wr.setCell ⟨w.heap.size, 0, none⟩ (.int .i64 xn)).setCell ⟨w.heap.size, 1, none⟩ (.string xs)).setCell ⟨w.heap.size, 2, none⟩ (.slice (some ⟨c, 0, none⟩) xf.length xf.length))) := by
          refine ⟨HX.out.keep mf.size fun b' off cap i hv hb => mf.cell (p := ⟨b', i, none⟩) hb (fun e => ?_), HBW.out.trans (mf.below HBW.out.size (fun i hi => by omega))⟩
          simp only [Value.slice.injEq, Option.some.injEq, Addr.mk.injEq] at hv
          have e' : b' = w.heap.size := e
          omega
        clear HX mf
        go_wp2_with fail
        refine bodyPost_ret (v := .agg #[.int .i64 xn, .string xs, .slice (some ⟨c, 0, none⟩) xf.length xf.length]) ?_ rfl ⟨_, by rw [HE.out], by rw [HE.out]; exact HO.out.1, HO.out.2⟩
        exact results_cell_row rfl _ _ w.heap.size _ _ (0, 0) _ rfl hS Tryz.underlying58 rfl (by kernel_rfl)
      | false =>
        go_wp2_with fail
        go_roundw
        case rel => exact ⟨k + 1, by omega, by go_num, HN.out hm, trivial⟩
        case measure => simp [intOf]; omega
    · have hkl : k = 19 := by omega
      subst hkl
      have HX : Hid (rowP n = none) := HE.out (by rwa [List.take_of_length_le (by omega)] at htk)
      clear htk hlt
      have hS := Holds.set (Holds.set (Holds.set hH 0 (.int .i64 0)) 1 (.string ⟨#[]⟩)) 2 (.slice none 0 0)
      have mf : Moves (fun i => i = w.heap.size) wr _ := (((Moves.refl (fun i => i = w.heap.size) wr).setCell (p := ⟨w.heap.size, 0, none⟩) (.inl rfl) (.int .i64 0)).setCell (p := ⟨w.heap.size, 1, none⟩) (.inl rfl) (.string ⟨#[]⟩)).setCell (p := ⟨w.heap.size, 2, none⟩) (.inl rfl) (.slice none 0 0)
      have HE : Hid (ofP n = (0, ⟨#[]⟩, [])) := by
        show _ = _
        unfold ofP
        rw [HX.out]; rfl
      have HO := Lib.hid (HBW.out.trans (mf.below HBW.out.size (fun i hi => by omega)))
      clear mf
      go_wp2_with fail
      refine bodyPost_ret (v := .agg #[.int .i64 0, .string ⟨#[]⟩, .slice none 0 0]) ?_ rfl ⟨_, by rw [HE.out], by rw [HE.out]; exact TextsAt.nil _, HO.out⟩
      exact results_cell_row rfl _ _ w.heap.size _ _ (0, 0) _ rfl hS Tryz.underlying58 rfl (by kernel_rfl)

set_option maxRecDepth 100000 in
theorem field_row (z : Int) (s : ByteArray) (ao : Option Addr) (n cap : Nat) (W : World) : (Instr.field 58 (.agg #[.int .i64 z, .string s, .slice ao n cap]) 2).run Tryz.prog W = .ok (.slice ao n cap) W := by kernel_rfl
set_option maxRecDepth 100000 in
theorem fit6_any (w : World) (n m : Int) : Calls Tryz.prog 21 #[.int .i64 n, .int .i64 m] w fun e w' => e = .returned (.tuple #[.string (fitP (formsP n) m).1, .bool (fitP (formsP n) m).2]) ∧ Below w.heap.size w w' := by
  have hln := formsP_len n
  have hF : Calls Tryz.prog 22 #[.int .i64 n] w fun e w' => ∃ z s ao cap, e = .returned (.agg #[.int .i64 z, .string s, .slice ao (formsP n).length cap]) ∧ (formsP n ≠ [] → ∃ b off, ao = some ⟨b, off, none⟩ ∧ b < w'.heap.size ∧ ∀ k x, (formsP n)[k]? = some x → w'.cell? ⟨b, off + k, none⟩ = some (.string x)) ∧ Below w.heap.size w w' :=
    (of_any w n).mono fun e w' ⟨v, he, hv, hb⟩ => by
      rw [ofP_forms] at hv
      obtain ⟨ao, cap, hv, hc⟩ := hv
      exact ⟨_, _, ao, cap, by rw [he, hv], hc, hb⟩
  have hfr := field_row
  generalize formsP n = l at *
  go_enter Tryz.func21, Tryz.ntmps21
  go_wp2_with (go_at_call 22; with_reducible refine hF.mono ?_; rintro e w1 ⟨z, s, ao, cap, rfl, hc, hbel⟩)
  go_loopw [7] (fun i wr => ∃ k : Nat, k ≤ l.length ∧ i = .int .i64 k ∧ (∀ x ∈ l.take k, ((x.size : Int) == m) = false) ∧ wr = w1) (fun i _ => l.length - (intOf i).toNat)
  case atStart => exact ⟨0, Nat.zero_le _, rfl, by simp, rfl⟩
  case round =>
    obtain ⟨k, hk, rfl, htk, rfl⟩ := hrel
    by_cases hlt : k < l.length
    · obtain ⟨b, off, rfl, hb, hcell⟩ := hc (by intro h; simp [h] at hlt)
      obtain ⟨y, hy⟩ : ∃ y, y = l[k] := ⟨_, rfl⟩
      have c1 : wr.cell? ⟨b, off + k, none⟩ = some (.string y) := hcell k y (by simp [hlt, hy])
      have HN : Hid (((y.size : Int) == m) = false → ∀ x ∈ l.take (k + 1), ((x.size : Int) == m) = false) := fun e => take_all hlt htk (by rw [← hy]; exact e)
      have HT : Hid (((y.size : Int) == m) = true → fitP l m = (y, true)) := fun e => by
        show fitP l m = _
        rw [hy]; exact fitP_hit hlt htk (by rw [← hy]; exact e)
      clear hc hcell htk hy
      cases hm : ((y.size : Int) == m) with
      | true =>
        go_wp2_with fail
        go_ret2
        exact ⟨by rw [HT.out hm]; rfl, hbel⟩
      | false =>
        go_wp2_with fail
        go_roundw
        case rel => exact ⟨k + 1, by omega, by go_num, HN.out hm, trivial⟩
        case measure => simp [intOf]; omega
    · have hkl : k = l.length := by omega
      subst hkl
      rw [List.take_length] at htk
      have HE := Lib.hid (fitP_none htk)
      clear htk hlt hc
      go_wp2_with fail
      go_ret2
      exact ⟨by rw [HE.out]; rfl, hbel⟩
end Go.Proofs.YtpiklkbjfpfejaaGreatDoor
