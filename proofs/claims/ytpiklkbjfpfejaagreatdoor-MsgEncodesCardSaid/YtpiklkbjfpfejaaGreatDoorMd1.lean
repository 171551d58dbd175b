/- Decode of what is too long, and of what begins with no message's number. -/
import Derived.Test.YtpiklkbjfpfejaaGreatDoorFltB
import Derived.Test.YtpiklkbjfpfejaaGreatDoorForms
import Derived.Test.YtpiklkbjfpfejaaGreatDoorTexts
import Derived.Laws.Rows
import Derived.IntWalk
namespace Go.Proofs.YtpiklkbjfpfejaaGreatDoor
open Go.RowKit

theorem known7_any (w : World) (n : Int) : Calls Tryz.prog 28 #[.int .i64 n] w fun e w' => e = .returned (.bool (decide ((formsP n).length > 0))) ∧ Below w.heap.size w w' := by
  have hF : Calls Tryz.prog 29 #[.int .i64 n] w fun e w' => ∃ ao cap, e = .returned (.slice ao (formsP n).length cap) ∧ Below w.heap.size w w' :=
    (forms_any w n).mono fun e w' ⟨v, he, ⟨ao, cap, hv, hc⟩, hb⟩ => ⟨ao, cap, by rw [he, hv], hb⟩
  generalize formsP n = l at *
  go_enter Tryz.func28, Tryz.ntmps28
  go_wp2_with (go_at_call 29; with_reducible refine hF.mono ?_; rintro e w1 ⟨ao, cap, rfl, hbel⟩)
  go_ret
  exact ⟨by simp, hbel⟩
theorem results_row_tmp {P : Program} {fn : Func} {p u : Tmp} {ty : TypeId} (h : fn.results = #[.cell p ty, .tmp u]) (tmps : Array Value) (w : World) (g : Nat) (t : TypeId) (cs : Array Value) (fr : Nat × Nat) (d : TypeDesc)
    (hp : tmps.getD p undef = .pointer (some ⟨g, 0, none⟩)) (hg : w.heap[g]? = some (.cells cs t fr))
    (hu : P.underlying ty = some d) (hd : (match d with | .struct _ | .array _ _ => true | _ => false) = true) (hi : (P.info? ty).map (·.size) = some cs.size) :
    (results fn tmps).run P w = .ok (.tuple #[.agg cs, tmps.getD u undef]) w := by
  have hp' : tmps[p]?.getD undef = .pointer (some ⟨g, 0, none⟩) := by simpa using hp
  simp [results, h, hp', asAddr, run_loadVar_row w g t ty cs fr d hg hu hd hi]

/-- 'message' -/
def messageS : ByteArray := ⟨#[109, 101, 115, 115, 97, 103, 101]⟩
def zeroM : Value := .agg #[.int .i64 0, .slice none 0 0]

set_option maxRecDepth 100000 in
theorem decode_long {w : World} {s : ByteArray} (hs : 32768 < s.size) (hm : s.size ≤ 9223372036854775807) :
    Calls Tryz.prog 11 #[.string s] w fun r w' => ∃ t u, r = .returned (.tuple #[zeroM, .iface t u]) ∧ ErrAt w' (.iface t u) [messageS] (some 2) ∧ Below w.heap.size w w' := by
  have HO : Hid (∀ W, Calls Tryz.prog 15 #[.string messageS, .int .i64 2] W fun r w' => ∃ t u, r = .returned (.iface t u) ∧ ErrAt w' (.iface t u) [messageS] (some 2) ∧ Below W.heap.size W w') := fun W =>
    (fOf_any messageS 2 (by decide) W).mono fun r w' ⟨v', h1, h2, h3, h4⟩ => by
      cases h2
      exact ⟨_, _, h1, .fault ‹_› ‹_› ‹_› ‹_›, h4⟩
  unfold messageS zeroM at *
  have q1 : (s.size : Int) > 32768 := by omega
  have q2 : (s.toList == ([] : List UInt8)) = false := by
    rw [ba_toList]
    cases h : s.data.toList with
    | nil =>
      have h1 := congrArg List.length h
      have h2 : s.size = s.data.size := rfl
      simp only [Array.length_toList, List.length_nil] at h1
      omega
    | cons _ _ => rfl
  have HB := Lib.hid ((Below.refl w.heap.size w).alloc (Nat.le_refl _) (.cells #[.int .i64 0, .slice none 0 0] 24))
  clear hs hm
  go_enter Tryz.func11, Tryz.ntmps11
  go_wp2_with fail
  go_at_call 15
  refine (HO.out _).mono ?_
  rintro r w1 ⟨t, u, rfl, he, b1⟩
  have hM1 := (Holds.new w 24 #[.int .i64 0, .slice none 0 0]).moves (Moves.ofBelow (S := nobody) b1) (fun h => h)
  have c0 := hM1.cell 0
  have c1 := hM1.cell 1
  have s0 := hM1.frozen 0
  have s1 := hM1.frozen 1
  go_wp2_with fail
  have hF := Holds.set (Holds.set hM1 0 (.int .i64 0)) 1 (.slice none 0 0)
  have mf : Moves (fun i => i = w.heap.size) w1 _ := ((Moves.refl (fun i => i = w.heap.size) w1).setCell (p := ⟨w.heap.size, 0, none⟩) (.inl rfl) (.int .i64 0)).setCell (p := ⟨w.heap.size, 1, none⟩) (.inl rfl) (.slice none 0 0)
  cases he with
  | @fault b _ v0 _ _ hb0 hc0 hc1 hv0 =>
    have hne : b ≠ w.heap.size := by
      rintro rfl
      rw [c0] at hc0
      cases hc0
    refine bodyPost_ret (results_row_tmp (p := 2) (u := 3) rfl _ _ w.heap.size _ _ (0, 0) _ rfl hF Tryz.underlying24 rfl (by kernel_rfl)) rfl ⟨_, _, rfl, ?_, (HB.out.trans (b1.mono HB.out.size)).trans (mf.below (by have := (HB.out.trans (b1.mono HB.out.size)).size; omega) (fun i h => by omega))⟩
    cases hv0
    exact .fault (Nat.lt_of_lt_of_le hb0 mf.size) ((mf.cell (p := ⟨b, 0, none⟩) hb0 hne).trans hc0) ((mf.cell (p := ⟨b, 1, none⟩) hb0 hne).trans hc1) (.num 2)

set_option maxRecDepth 100000 in
theorem decode_none {w : World} {s : ByteArray} {b : UInt8} (hs : s.size ≤ 32768) (h0 : s.data[0]? = some b) (hk : formsP (b.toNat : Int) = []) :
    Calls Tryz.prog 11 #[.string s] w fun r w' => ∃ t u, r = .returned (.tuple #[zeroM, .iface t u]) ∧ ErrAt w' (.iface t u) [messageS] (some 6) ∧ Below w.heap.size w w' := by
  have HO : Hid (∀ W, Calls Tryz.prog 15 #[.string messageS, .int .i64 6] W fun r w' => ∃ t u, r = .returned (.iface t u) ∧ ErrAt w' (.iface t u) [messageS] (some 6) ∧ Below W.heap.size W w') := fun W =>
    (fOf_any messageS 6 (by decide) W).mono fun r w' ⟨v', h1, h2, h3, h4⟩ => by
      cases h2
      exact ⟨_, _, h1, .fault ‹_› ‹_› ‹_› ‹_›, h4⟩
  have hlt : 0 < s.size := by
    obtain ⟨h, _⟩ := Array.getElem?_eq_some_iff.1 h0
    exact h
  have hw : wrap64 ((s[0]'hlt).toNat : Int) = (b.toNat : Int) := by
    obtain ⟨h, h2⟩ := Array.getElem?_eq_some_iff.1 h0
    have h3 : s[0]'hlt = b := h2
    rw [h3]
    have := UInt8.toNat_lt b
    unfold wrap64
    omega
  have HK : Hid (∀ W, Calls Tryz.prog 28 #[.int .i64 (wrap64 ((s[0]'hlt).toNat : Int))] W fun e w' => e = .returned (.bool false) ∧ Below W.heap.size W w') := fun W => by
    have := known7_any W (b.toNat : Int)
    rw [hk] at this
    rw [hw]
    exact this
  unfold messageS zeroM at *
  clear hw
  have q1 : ¬ (s.size : Int) > 32768 := by omega
  have q2 : (s.toList == ([] : List UInt8)) = false := by
    rw [ba_toList]
    cases h : s.data.toList with
    | nil =>
      have h1 := congrArg List.length h
      have h2 : s.size = s.data.size := rfl
      simp only [Array.length_toList, List.length_nil] at h1
      omega
    | cons _ _ => rfl
  have q3 : (0 : Int) < (s.size : Int) := by omega
  have HB := Lib.hid ((Below.refl w.heap.size w).alloc (Nat.le_refl _) (.cells #[.int .i64 0, .slice none 0 0] 24))
  go_enter Tryz.func11, Tryz.ntmps11
  go_wp2_with (first
    | (go_at_call 28; with_reducible refine (HK.out _).mono ?_; rintro r w1 ⟨rfl, b1⟩)
    | (go_at_call 15; with_reducible refine (HO.out _).mono ?_; rintro r w2 ⟨t, u, rfl, he, b2⟩; have hM1 := (((Holds.new w 24 #[.int .i64 0, .slice none 0 0]).moves (Moves.ofBelow (S := nobody) b1) (fun h => h))).moves (Moves.ofBelow (S := nobody) b2) (fun h => h); have c0 := hM1.cell 0; have c1 := hM1.cell 1; have s0 := hM1.frozen 0; have s1 := hM1.frozen 1))
  have hF := Holds.set (Holds.set hM1 0 (.int .i64 0)) 1 (.slice none 0 0)
  have mf : Moves (fun i => i = w.heap.size) w2 _ := ((Moves.refl (fun i => i = w.heap.size) w2).setCell (p := ⟨w.heap.size, 0, none⟩) (.inl rfl) (.int .i64 0)).setCell (p := ⟨w.heap.size, 1, none⟩) (.inl rfl) (.slice none 0 0)
  cases he with
  | @fault b _ v0 _ _ hb0 hc0 hc1 hv0 =>
    have hne : b ≠ w.heap.size := by
      rintro rfl
      rw [c0] at hc0
      cases hc0
    refine bodyPost_ret (results_row_tmp (p := 2) (u := 3) rfl _ _ w.heap.size _ _ (0, 0) _ rfl hF Tryz.underlying24 rfl (by kernel_rfl)) rfl ⟨_, _, rfl, ?_, ((HB.out.trans (b1.mono HB.out.size)).trans (b2.mono (HB.out.trans (b1.mono HB.out.size)).size)).trans (mf.below (by have := ((HB.out.trans (b1.mono HB.out.size)).trans (b2.mono (HB.out.trans (b1.mono HB.out.size)).size)).size; omega) (fun i h => by omega))⟩
    cases hv0
    exact .fault (Nat.lt_of_lt_of_le hb0 mf.size) ((mf.cell (p := ⟨b, 0, none⟩) hb0 hne).trans hc0) ((mf.cell (p := ⟨b, 1, none⟩) hb0 hne).trans hc1) (.num 6)
end Go.Proofs.YtpiklkbjfpfejaaGreatDoor
