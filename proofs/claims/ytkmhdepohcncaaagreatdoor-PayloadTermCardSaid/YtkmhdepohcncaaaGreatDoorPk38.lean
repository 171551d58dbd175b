/- Part 38 of what the statement wants. -/
import Derived.Deep.RegionHeld3
import Derived.Test.YtkmhdepohcncaaaGreatDoorPk20
import Derived.Test.YtkmhdepohcncaaaGreatDoorPk27
import Derived.Test.YtkmhdepohcncaaaGreatDoorPk31
import Derived.Test.YtkmhdepohcncaaaGreatDoorPk34
import Derived.Test.YtkmhdepohcncaaaGreatDoorPk36
import Derived.Test.YtkmhdepohcncaaaGreatDoorPk37
namespace Go.Proofs.YtkmhdepohcncaaaGreatDoor
open Go.RowKit

/-- Where bytes fail to be a message, and how. -/
def failP : List UInt8 → Option (List ByteArray × Int)
  | [] => some ([messageS], 4)
  | b :: s => if formsP (b.toNat : Int) = [] then some ([messageS], 6) else match (formsP (b.toNat : Int)).find? (fun f => fitsF f s) with
    | some _ => none
    | none => some ([wordP (b.toNat : Int), placeF (firstF (b.toNat : Int)) s], codeF (firstF (b.toNat : Int)) s)
theorem codeF_fits {f : ByteArray} {s : List UInt8} (h : fitsF f s = false) : codeF f s ≠ 0 := by
  unfold fitsF at h
  unfold codeF
  split
  · rename_i h1
    rw [decide_eq_true h1, Bool.true_and] at h
    exact of_decide_eq_false h
  · assumption
theorem firstF_mem {n : Int} (h : formsP n ≠ []) : firstF n ∈ formsP n := by
  unfold firstF
  have hp := List.length_pos_iff.2 h
  rw [List.getD_eq_getElem?_getD, List.getElem?_eq_getElem hp]
  exact List.getElem_mem hp
theorem failP_code {p : List UInt8} {path : List ByteArray} {code : Int} (h : failP p = some (path, code)) : code ≠ 0 := by
  cases p with
  | nil =>
    have h2 : some ([messageS], (4 : Int)) = some (path, code) := h
    injection h2 with h2
    injection h2 with _ h2
    omega
  | cons b s =>
    by_cases hk : formsP (b.toNat : Int) = []
    · rw [failP, if_pos hk] at h
      injection h with h2
      injection h2 with _ h2
      omega
    · rw [failP, if_neg hk] at h
      cases hf : (formsP (b.toNat : Int)).find? (fun f => fitsF f s) with
      | some f => rw [hf] at h; cases h
      | none =>
        rw [hf] at h
        injection h with h2
        injection h2 with _ h2
        rw [← h2]
        refine codeF_fits ?_
        rw [List.find?_eq_none] at hf
        simpa using hf _ (firstF_mem hk)

set_option maxRecDepth 100000 in
theorem decode_empty (w : World) : Calls Tryz.prog 24 #[.string ⟨#[]⟩] w fun r w' => ∃ t u, r = .returned (.tuple #[zeroM, .iface t u]) ∧ ErrAt w' (.iface t u) [messageS] (some 4) ∧ Below w.heap.size w w' := by
  have HO : Hid (∀ W, Calls Tryz.prog 51 #[.string messageS, .int .i64 4] W fun r w' => ∃ t u, r = .returned (.iface t u) ∧ ErrAt w' (.iface t u) [messageS] (some 4) ∧ Below W.heap.size W w') := fun W =>
    (fOf_any messageS 4 (by decide) W).mono fun r w' ⟨v', h1, h2, h3, h4⟩ => by
      cases h2
      exact ⟨_, _, h1, .fault ‹_› ‹_› ‹_› ‹_›, h4⟩
  unfold messageS zeroM at *
  have HB := Lib.hid ((Below.refl w.heap.size w).alloc (Nat.le_refl _) (.cells #[.int .i64 0, .slice none 0 0] 59))
  go_enter Tryz.func24, Tryz.ntmps24
  go_wp2_with fail
  go_at_call 51
  refine (HO.out _).mono ?_
  rintro r w1 ⟨t, u, rfl, he, b1⟩
  have hM1 := (Holds.new w 59 #[.int .i64 0, .slice none 0 0]).moves (Moves.ofBelow (S := nobody) b1) (fun h => h)
  have c0 := hM1.cell 0
  have c1 := hM1.cell 1
  have s0 := hM1.frozen 0
  have s1 := hM1.frozen 1
  go_wp2_with fail
  have hF := Holds.set (Holds.set hM1 0 (.int .i64 0)) 1 (.slice none 0 0)
  have mf : Moves (fun i => i = w.heap.size) w1 _ := ((Moves.refl (fun i => i = w.heap.size) w1).setCell (p := ⟨w.heap.size, 0, none⟩) (.inl rfl) (.int .i64 0)).setCell (p := ⟨w.heap.size, 1, none⟩) (.inl rfl) (.slice none 0 0)
  have hb1 := HB.out.trans (b1.mono HB.out.size)
  refine bodyPost_ret (results_row_tmp (p := 2) (u := 3) rfl _ _ w.heap.size _ _ (0, 0) _ rfl hF Tryz.underlying59 rfl (by kernel_rfl)) rfl ⟨_, _, rfl, he.set hM1 (fun x h => by cases h) mf, hb1.trans (mf.below hb1.size fun i h => Nat.le_of_eq h.symm)⟩
theorem dec_any {w : World} (p : List UInt8) (hp : p.length ≤ 2000) (hT : TabAt w) (hV : VarAt w) : Calls Tryz.prog 24 #[.string (bs p)] w fun r w' => Below w.heap.size w w' ∧
    ((∃ path code t u, failP p = some (path, code) ∧ r = .returned (.tuple #[zeroM, .iface t u]) ∧ ErrAt w' (.iface t u) path (some code)) ∨
     (∃ b s f v, p = b :: s ∧ failP p = none ∧ (formsP (b.toNat : Int)).find? (fun f => fitsF f s) = some f ∧ r = .returned (.tuple #[msgV (b.toNat : Int) v, .nilIface]) ∧ FieldsAt w' v (fieldsF f s))) := by
  cases p with
  | nil => exact (decode_empty w).mono fun r w' ⟨t, u, h1, h2, h3⟩ => ⟨h3, .inl ⟨_, _, t, u, rfl, h1, h2⟩⟩
  | cons b s =>
    by_cases hk : formsP (b.toNat : Int) = []
    · have h := decode_none (w := w) (s := bs (b :: s)) (b := b) (by rw [bs_size]; omega) (by simp [bs]) hk
      exact h.mono fun r w' ⟨t, u, h1, h2, h3⟩ => ⟨h3, .inl ⟨_, _, t, u, by rw [failP, if_pos hk], h1, h2⟩⟩
    · have hs : s.length ≤ 32767 := by rw [List.length_cons] at hp; omega
      refine (decode_some hs hk hT hV).mono fun r w' ⟨hb, hc⟩ => ⟨hb, ?_⟩
      rcases hc with ⟨f, v, h1, h2, h3⟩ | ⟨h1, t, u, h2, h3⟩
      · exact .inr ⟨b, s, f, v, rfl, by rw [failP, if_neg hk, h1], h1, h2, h3.now⟩
      · exact .inl ⟨_, _, t, u, by rw [failP, if_neg hk, h1], h2, h3⟩

def messageB : ByteArray := ⟨#[109, 101, 115, 115, 97, 103, 101, 32]⟩
set_option maxRecDepth 100000 in
theorem rdecode_empty (w : World) : Calls Tryz.prog 34 #[.string ⟨#[]⟩] w fun r w' => r = .returned (.tuple #[zeroM, .agg #[.int .i64 4, .string messageB]]) ∧ Below w.heap.size w w' := by
  have hM := (Holds.new w 59 #[.int .i64 0, .slice none 0 0]).moves ((Moves.refl nobody _).alloc (.cells #[.int .i64 0, .string ⟨#[]⟩] 78)) (fun h => h)
  have hE := Holds.new (w.alloc (.cells #[.int .i64 0, .slice none 0 0] 59)) 78 #[.int .i64 0, .string ⟨#[]⟩]
  rw [World.size_alloc] at hE
  have hB : Below w.heap.size w ((w.alloc (.cells #[.int .i64 0, .slice none 0 0] 59)).alloc (.cells #[.int .i64 0, .string ⟨#[]⟩] 78)) := ((Below.refl _ w).alloc (Nat.le_refl _) _).alloc (by simp) _
  have HM : Hid (Holds _ _ _ _) := hM
  have HE : Hid (Holds _ _ _ _) := hE
  have HB : Hid (Below _ _ _) := hB
  clear hM hE hB
  unfold messageB zeroM
  generalize hW : (w.alloc (.cells #[.int .i64 0, .slice none 0 0] 59)).alloc (.cells #[.int .i64 0, .string ⟨#[]⟩] 78) = W at *
  have d0 := HM.out.cell 0
  have d1 := HM.out.cell 1
  have f0 := HM.out.frozen 0
  have f1 := HM.out.frozen 1
  have e0 := HE.out.cell 0
  have e1 := HE.out.cell 1
  have k0 := HE.out.frozen 0
  have k1 := HE.out.frozen 1
  go_enter Tryz.func34, Tryz.ntmps34
  go_upto_region 2 with fail
  (try rw [hW])
  clear hW
  go_wp2_with fail
  have hF1 := Holds.set (Holds.set HM.out 0 (.int .i64 0)) 1 (.slice none 0 0)
  have mf1 : Moves (fun i => i = w.heap.size) W _ := ((Moves.refl (fun i => i = w.heap.size) _).setCell (p := ⟨w.heap.size, 0, none⟩) (.inl rfl) (.int .i64 0)).setCell (p := ⟨w.heap.size, 1, none⟩) (.inl rfl) (.slice none 0 0)
  have hE5 := Holds.moves HE.out mf1 (by omega)
  have hF2 := Holds.set (Holds.set hE5 0 (.int .i64 4)) 1 (.string ⟨#[109, 101, 115, 115, 97, 103, 101, 32]⟩)
  have mf2 : Moves (fun i => i = w.heap.size + 1) _ _ := ((Moves.refl (fun i => i = w.heap.size + 1) ((W.setCell ⟨w.heap.size, 0, none⟩ (.int .i64 0)).setCell ⟨w.heap.size, 1, none⟩ (.slice none 0 0))).setCell (p := ⟨w.heap.size + 1, 0, none⟩) (.inl rfl) (.int .i64 4)).setCell (p := ⟨w.heap.size + 1, 1, none⟩) (.inl rfl) (.string ⟨#[109, 101, 115, 115, 97, 103, 101, 32]⟩)
  have hF1b := Holds.moves hF1 mf2 (by omega)
  have mm : Moves (fun i => i = w.heap.size ∨ i = w.heap.size + 1) W _ := (mf1.mono fun i h _ => .inl h).trans mf2 fun i h => .inl (.inr h)
  try simp only [Exit.inBlock, Exit.then]
  refine bodyPost_ret (rdResults3 (p := 2) (q := 3) rfl _ _ w.heap.size (w.heap.size + 1) _ _ _ _ (0, 0) (0, 0) _ _ rfl hF1b rfl hF2 Tryz.underlying59 rfl (by kernel_rfl) Tryz.underlying78 rfl (by kernel_rfl)) rfl ⟨rfl, HB.out.trans (mm.below HB.out.size fun i h => by rcases h with h | h <;> omega)⟩
set_option maxRecDepth 100000 in
theorem rdecode_none {w : World} {b : UInt8} {s : List UInt8} (hs : s.length ≤ 10000) (hk : formsP (b.toNat : Int) = []) :
    Calls Tryz.prog 34 #[.string (bs (b :: s))] w fun r w' => r = .returned (.tuple #[zeroM, .agg #[.int .i64 6, .string messageB]]) ∧ Below w.heap.size w w' := by
  have hix : ∀ W : World, (Instr.index 9 (.string (bs (b :: s))) (.int .i64 0)).run Tryz.prog W = .ok (.int .u8 (b.toNat : Int)) W := fun W => index_bs (b :: s) 0 (by simp) W
  have hcv : ∀ W : World, (convert 5 3 (.int .u8 (b.toNat : Int))).run Tryz.prog W = .ok (.int .i64 (b.toNat : Int)) W := fun W => by
    have := UInt8.toNat_lt b
    have h : IntKind.i64.wrap (b.toNat : Int) = (b.toNat : Int) := IntWalk.i64_in _ (by omega)
    simp [go_sem, Tryz.underlying5, Tryz.underlying3, h]
  have hsz : (bs (b :: s)).size = s.length + 1 := by rw [bs_size]; rfl
  have q1 : decide (((s.length : Int) + 1) > 32768) = false := decide_eq_false (by omega)
  have q2 : decide (32768 < ((s.length : Int) + 1)) = false := decide_eq_false (by omega)
  have q3 : (((s.length : Int) + 1) == 0) = false := by rw [beq_eq_false_iff_ne]; omega
  have hsz2 : (bs (b :: s)).size ≤ 40000 := by omega
  have hof := ofP_forms (b.toNat : Int)
  rw [hk] at hof
  have HOf : Hid (∀ W, Calls Tryz.prog 64 #[.int .i64 (b.toNat : Int)] W fun e w' => ∃ z x ao cap, e = .returned (.agg #[.int .i64 z, .string x, .slice ao 0 cap]) ∧ Below W.heap.size W w') := fun W =>
    (of_any W (b.toNat : Int)).mono fun e w' ⟨v, h1, hv, h3⟩ => by
      rw [hof] at hv
      obtain ⟨ao, cap, h2, _⟩ := hv
      exact ⟨(ofP (b.toNat : Int)).1, (ofP (b.toNat : Int)).2.1, ao, cap, by rw [h1, h2]; rfl, h3⟩
  clear hof hk hs
  generalize (b.toNat : Int) = n at *
  generalize bs (b :: s) = P at *
  have hM := (Holds.new w 59 #[.int .i64 0, .slice none 0 0]).moves ((Moves.refl nobody _).alloc (.cells #[.int .i64 0, .string ⟨#[]⟩] 78)) (fun h => h)
  have hE := Holds.new (w.alloc (.cells #[.int .i64 0, .slice none 0 0] 59)) 78 #[.int .i64 0, .string ⟨#[]⟩]
  rw [World.size_alloc] at hE
  have hB : Below w.heap.size w ((w.alloc (.cells #[.int .i64 0, .slice none 0 0] 59)).alloc (.cells #[.int .i64 0, .string ⟨#[]⟩] 78)) := ((Below.refl _ w).alloc (Nat.le_refl _) _).alloc (by simp) _
  have HM0 := Lib.hid hM
  have HE0 := Lib.hid hE
  have HB0 := Lib.hid hB
  clear hM hE hB
  unfold messageB zeroM
  go_enter Tryz.func34, Tryz.ntmps34
  go_wp2_with fail
  go_at_call 64
  refine (HOf.out _).mono ?_
  rintro e' w1 ⟨z, x, ao, cap, rfl, b1⟩
  have HM : Hid (Holds _ _ _ _) := (HM0.out.moves (Moves.ofBelow (S := nobody) b1) (fun h => h)).moves ((Moves.refl nobody w1).alloc (.cells #[.int .i64 z, .string x, .slice ao 0 cap] 115)) (fun h => h)
  have HE : Hid (Holds _ _ _ _) := (HE0.out.moves (Moves.ofBelow (S := nobody) b1) (fun h => h)).moves ((Moves.refl nobody w1).alloc (.cells #[.int .i64 z, .string x, .slice ao 0 cap] 115)) (fun h => h)
  have HB : Hid (Below _ _ _) := (HB0.out.trans (b1.mono HB0.out.size)).alloc (Nat.le_trans HB0.out.size b1.size) (.cells #[.int .i64 z, .string x, .slice ao 0 cap] 115)
  have d0 := HM.out.cell 0
  have d1 := HM.out.cell 1
  have f0 := HM.out.frozen 0
  have f1 := HM.out.frozen 1
  have e0 := HE.out.cell 0
  have e1 := HE.out.cell 1
  have k0 := HE.out.frozen 0
  have k1 := HE.out.frozen 1
  clear b1 HM0 HE0 HB0 HOf
  go_wp2_with fail
  generalize w1.alloc (.cells #[.int .i64 z, .string x, .slice ao 0 cap] 115) = W2 at *
  have hF1 := Holds.set (Holds.set HM.out 0 (.int .i64 0)) 1 (.slice none 0 0)
  have mf1 : Moves (fun i => i = w.heap.size) W2 _ := ((Moves.refl (fun i => i = w.heap.size) _).setCell (p := ⟨w.heap.size, 0, none⟩) (.inl rfl) (.int .i64 0)).setCell (p := ⟨w.heap.size, 1, none⟩) (.inl rfl) (.slice none 0 0)
  have hE5 := Holds.moves HE.out mf1 (by omega)
  have hF2 := Holds.set (Holds.set hE5 0 (.int .i64 6)) 1 (.string ⟨#[109, 101, 115, 115, 97, 103, 101, 32]⟩)
  have mf2 : Moves (fun i => i = w.heap.size + 1) _ _ := ((Moves.refl (fun i => i = w.heap.size + 1) ((W2.setCell ⟨w.heap.size, 0, none⟩ (.int .i64 0)).setCell ⟨w.heap.size, 1, none⟩ (.slice none 0 0))).setCell (p := ⟨w.heap.size + 1, 0, none⟩) (.inl rfl) (.int .i64 6)).setCell (p := ⟨w.heap.size + 1, 1, none⟩) (.inl rfl) (.string ⟨#[109, 101, 115, 115, 97, 103, 101, 32]⟩)
  have hF1b := Holds.moves hF1 mf2 (by omega)
  have mm : Moves (fun i => i = w.heap.size ∨ i = w.heap.size + 1) W2 _ := (mf1.mono fun i h _ => .inl h).trans mf2 fun i h => .inl (.inr h)
  try simp only [Exit.inBlock, Exit.then]
  refine bodyPost_ret (rdResults3 (p := 2) (q := 3) rfl _ _ w.heap.size (w.heap.size + 1) _ _ _ _ (0, 0) (0, 0) _ _ rfl hF1b rfl hF2 Tryz.underlying59 rfl (by kernel_rfl) Tryz.underlying78 rfl (by kernel_rfl)) rfl ⟨rfl, HB.out.trans (mm.below HB.out.size fun i h => by rcases h with h | h <;> omega)⟩

theorem atP_two (a b : ByteArray) : atP [a, b] = a ++ blankS ++ (b ++ blankS) := by
  unfold atP blankS
  simp only [List.foldl_cons, List.foldl_nil]
  apply ByteArray.ext
  simp [ByteArray.data_append]
theorem messageB_at : atP [messageS] = messageB := by decide +kernel
theorem rdec_any {w : World} (p : List UInt8) (hp : p.length ≤ 2000) : Calls Tryz.prog 34 #[.string (bs p)] w fun r w' => Below w.heap.size w w' ∧
    ((∃ path code, failP p = some (path, code) ∧ r = .returned (.tuple #[zeroM, .agg #[.int .i64 code, .string (atP path)]])) ∨
     (∃ b s f v, p = b :: s ∧ failP p = none ∧ (formsP (b.toNat : Int)).find? (fun f => fitsF f s) = some f ∧ r = .returned (.tuple #[msgV (b.toNat : Int) v, .agg #[.int .i64 0, .string ⟨#[]⟩]]) ∧ FieldsAt w' v (fieldsF f s))) := by
  cases p with
  | nil => exact (rdecode_empty w).mono fun r w' ⟨h1, h2⟩ => ⟨h2, .inl ⟨_, _, rfl, by rw [messageB_at]; exact h1⟩⟩
  | cons b s =>
    rw [List.length_cons] at hp
    by_cases hk : formsP (b.toNat : Int) = []
    · exact (rdecode_none (w := w) (s := s) (by omega) hk).mono fun r w' ⟨h1, h2⟩ => ⟨h2, .inl ⟨_, _, by rw [failP, if_pos hk], by rw [messageB_at]; exact h1⟩⟩
    · refine (rdecode_some (w := w) (s := s) (by omega) hk).mono fun r w' ⟨hb, hc⟩ => ⟨hb, ?_⟩
      rcases hc with ⟨f, ao, m, cap, h1, h2, h3⟩ | ⟨h1, _, h2⟩
      · exact .inr ⟨b, s, f, _, rfl, by rw [failP, if_neg hk, h1], h1, h2, h3⟩
      · exact .inl ⟨_, _, by rw [failP, if_neg hk, h1], by rw [atP_two]; exact h2⟩
theorem failP_path {p : List UInt8} {path : List ByteArray} {code : Int} (h : failP p = some (path, code)) : path.length ≤ 20 ∧ ∀ x ∈ path, x.size ≤ 1000 := by
  have hw : ∀ n : Int, (wordP n).size ≤ 100 := fun n => by
    unfold wordP
    cases hr : rowP n with
    | none => exact Nat.zero_le _
    | some r =>
      have hm := List.mem_of_find?_eq_some hr
      have : ∀ r ∈ tableP, r.2.1.size ≤ 100 := by decide
      exact this r hm
  have hmsg : messageS.size ≤ 1000 := by decide
  cases p with
  | nil =>
    have h2 : some ([messageS], (4 : Int)) = some (path, code) := h
    injection h2 with h2
    injection h2 with h2 _
    subst h2
    exact ⟨by simp, fun x hx => by simp at hx; rw [hx]; exact hmsg⟩
  | cons b s =>
    by_cases hk : formsP (b.toNat : Int) = []
    · rw [failP, if_pos hk] at h
      injection h with h2
      injection h2 with h2 _
      subst h2
      exact ⟨by simp, fun x hx => by simp at hx; rw [hx]; exact hmsg⟩
    · rw [failP, if_neg hk] at h
      cases hf : (formsP (b.toNat : Int)).find? (fun f => fitsF f s) with
      | some f => rw [hf] at h; cases h
      | none =>
        rw [hf] at h
        injection h with h2
        injection h2 with h2 _
        subst h2
        refine ⟨by simp, fun x hx => ?_⟩
        simp only [List.mem_cons, List.not_mem_nil, or_false] at hx
        rcases hx with rfl | rfl
        · have := hw (b.toNat : Int); omega
        · have := placeF_size (firstF_mem hk) s; omega

theorem zeroFields (W : World) : FieldsAt W (.slice none 0 0) [] := ⟨none, 0, rfl, Nat.le_refl _, Nat.zero_le _, by simp, fun h => absurd rfl h⟩
theorem dec_fail {w : World} {p : List UInt8} (hp : p.length ≤ 2000) {path : List ByteArray} {code : Int} (hf : failP p = some (path, code)) (hT : TabAt w) (hV : VarAt w) :
    Calls Tryz.prog 24 #[.string (bs p)] w fun r w' => ∃ t u, r = .returned (.tuple #[zeroM, .iface t u]) ∧ ErrAt w' (.iface t u) path (some code) ∧ Below w.heap.size w w' :=
  (dec_any p hp hT hV).mono fun r w' ⟨hb, hc⟩ => by
    rcases hc with ⟨path', code', t, u, e1, e2, e3⟩ | ⟨b, s, f, v, _, e2, _⟩
    · rw [hf] at e1
      cases e1
      exact ⟨t, u, e2, e3, hb⟩
    · rw [hf] at e2; cases e2
theorem rdec_fail {w : World} {p : List UInt8} (hp : p.length ≤ 2000) {path : List ByteArray} {code : Int} (hf : failP p = some (path, code)) :
    Calls Tryz.prog 34 #[.string (bs p)] w fun r w' => r = .returned (.tuple #[zeroM, .agg #[.int .i64 code, .string (atP path)]]) ∧ Below w.heap.size w w' :=
  (rdec_any p hp).mono fun r w' ⟨hb, hc⟩ => by
    rcases hc with ⟨path', code', e1, e2⟩ | ⟨b, s, f, v, _, e2, _⟩
    · rw [hf] at e1
      cases e1
      exact ⟨e2, hb⟩
    · rw [hf] at e2; cases e2
theorem failP_none {p : List UInt8} (h : failP p = none) : ∃ b s f, p = b :: s ∧ (formsP (b.toNat : Int)).find? (fun f => fitsF f s) = some f := by
  cases p with
  | nil => exact absurd h (by simp [failP])
  | cons b s =>
    by_cases hk : formsP (b.toNat : Int) = []
    · rw [failP, if_pos hk] at h; cases h
    · rw [failP, if_neg hk] at h
      cases hf : (formsP (b.toNat : Int)).find? (fun f => fitsF f s) with
      | some f => exact ⟨b, s, f, rfl, hf⟩
      | none => rw [hf] at h; cases h
theorem nextB_self (b : UInt8) : nextB (b.toNat : Int) = b := by
  unfold nextB
  have := b.toNat_lt
  have e : ((b.toNat : Int) % 256).toNat = b.toNat := by omega
  rw [e]
  exact UInt8.ofNat_toNat
theorem dec_right {w : World} {b : UInt8} {s : List UInt8} {f : ByteArray} (hp : (b :: s).length ≤ 2000) (hn : failP (b :: s) = none) (hf : (formsP (b.toNat : Int)).find? (fun f => fitsF f s) = some f) (hT : TabAt w) (hV : VarAt w) :
    Calls Tryz.prog 24 #[.string (bs (b :: s))] w fun r w' => ∃ ao, ∃ L cap : Nat, r = .returned (.tuple #[.agg #[.int .i64 (b.toNat : Int), .slice ao L cap], .nilIface]) ∧ FieldsAt w' (.slice ao L cap) (fieldsF f s) ∧ Below w.heap.size w w' :=
  (dec_any (b :: s) hp hT hV).mono fun r w' ⟨hb, hc⟩ => by
    rcases hc with ⟨path', code', t, u, e1, e2, e3⟩ | ⟨b', s', f', v, e0, _, e2, e3, e4⟩
    · rw [hn] at e1; cases e1
    · cases e0
      rw [hf] at e2
      cases e2
      have e5 := e4
      obtain ⟨ao, cap, rfl, _⟩ := e5
      exact ⟨ao, _, cap, e3, e4, hb⟩
theorem rdec_right {w : World} {b : UInt8} {s : List UInt8} {f : ByteArray} (hp : (b :: s).length ≤ 2000) (hn : failP (b :: s) = none) (hf : (formsP (b.toNat : Int)).find? (fun f => fitsF f s) = some f) :
    Calls Tryz.prog 34 #[.string (bs (b :: s))] w fun r w' => ∃ ao, ∃ L cap : Nat, r = .returned (.tuple #[.agg #[.int .i64 (b.toNat : Int), .slice ao L cap], .agg #[.int .i64 0, .string ⟨#[]⟩]]) ∧ FieldsAt w' (.slice ao L cap) (fieldsF f s) ∧ Below w.heap.size w w' :=
  (rdec_any (b :: s) hp).mono fun r w' ⟨hb, hc⟩ => by
    rcases hc with ⟨path', code', e1, e2⟩ | ⟨b', s', f', v, e0, _, e2, e3, e4⟩
    · rw [hn] at e1; cases e1
    · cases e0
      rw [hf] at e2
      cases e2
      have e5 := e4
      obtain ⟨ao, cap, rfl, _⟩ := e5
      exact ⟨ao, _, cap, e3, e4, hb⟩
theorem fieldsF_len {n : Int} {f : ByteArray} {s : List UInt8} (hf : f ∈ formsP n) (hfit : fitsF f s = true) : (fieldsF f s).length ≤ 1000 := by
  have := (readsP_count (lettersOf f) s (fitsF_parts hfit).1).2
  have := (forms_letters hf).1
  unfold fieldsF
  omega
end Go.Proofs.YtkmhdepohcncaaaGreatDoor

namespace Go.Proofs.YtkmhdepohcncaaaGreatDoor
open Go.RowKit

theorem value_any {x : FieldR} {w : World} {v : Value} (hv : TextsAt w v (x.l.map bs)) (hcap : Roomy v x.l.length) (ho : FieldOk x) :
    Calls Tryz.prog 57 #[fieldV x v] w fun e w' => e = .returned (.tuple #[.string (bs (valueP x).1), .bool (valueP x).2]) ∧ Below w.heap.size w w' := by
  have HW := Lib.hid (fun (W : World) (hb : Below w.heap.size w W) => write_any (x.kind.toNat : Int) (hv.below hb) hcap ho)
  unfold valueP
  obtain ⟨ao, cap, rfl, _⟩ := hv
  have hq : (((writeP (x.kind.toNat : Int) x).2 : Int) == 0) = decide ((writeP (x.kind.toNat : Int) x).2 = 0) := by by_cases h : (writeP (x.kind.toNat : Int) x).2 = 0 <;> simp [h]
  generalize writeP (x.kind.toNat : Int) x = p at *
  obtain ⟨s, n⟩ := p
  obtain ⟨kd, xn, xs, xl⟩ := x
  have hkd : (kd.toNat : Int) < 256 := by have := kd.toNat_lt; omega
  have hw32 : IntKind.i32.wrap (kd.toNat : Int) = (kd.toNat : Int) := IntWalk.i32_in _ (by omega)
  unfold wroteV fieldV at *
  simp only at *
  have HF := Lib.hid ((Below.refl w.heap.size w).alloc (Nat.le_refl _) (.cells #[.int .u8 (kd.toNat : Int), .int .i64 xn, .string (bs xs), .slice ao (xl.map bs).length cap] 68))
  clear hcap ho
  generalize bs s = S at *
  generalize bs xs = S2 at *
  generalize (xl.map bs).length = m at *
  generalize kd.toNat = kn at *
  generalize decide (n = 0) = b at *
  go_enter Tryz.func57, Tryz.ntmps57
  go_wp2_with (go_at_call 118; with_reducible refine (HW.out _ HF.out).mono ?_; rintro e w1 ⟨rfl, b1⟩)
  go_ret2
  exact ⟨rfl, HF.out.trans (b1.mono HF.out.size)⟩
end Go.Proofs.YtkmhdepohcncaaaGreatDoor

namespace Go.Proofs.YtkmhdepohcncaaaGreatDoor
open Go.RowKit

/-- The message that a payload is, if it is one: its number, its format, what follows the number. -/
def msgP : List UInt8 → Option (UInt8 × ByteArray × List UInt8)
  | [] => none
  | b :: s => if 32767 < s.length then none else ((formsP (b.toNat : Int)).find? (fun f => fitsF f s)).map fun f => (b, f, s)
theorem msgP_mk {b : UInt8} {s : List UInt8} {f : ByteArray} (hs : s.length ≤ 32767) (h : (formsP (b.toNat : Int)).find? (fun f => fitsF f s) = some f) : msgP (b :: s) = some (b, f, s) := by
  show (if _ then _ else _) = _
  rw [if_neg (by omega), h]; rfl
theorem msgP_no {b : UInt8} {s : List UInt8} (h : (formsP (b.toNat : Int)).find? (fun f => fitsF f s) = none) : msgP (b :: s) = none := by
  show (if _ then _ else _) = _
  rw [h]; split <;> rfl

/-- A field's bytes on the wire, the text of its term. -/
def fieldT (x : FieldR) : List UInt8 := if x.kind = 116 then ofL x.s else refDataL (valueP x).1
def termP (p : List UInt8) : List UInt8 := match msgP p with
  | none => refDataL p
  | some (b, f, s) => refListL (refDataL [b] :: (fieldsF f s).map fieldT)

/-- What there is to know of a message's fields. -/
structure Parts (b : UInt8) (f : ByteArray) (s : List UInt8) : Prop where
  mem : f ∈ formsP (b.toNat : Int)
  len : (fieldsF f s).length = (lettersOf f).length
  few : (lettersOf f).length ≤ 13
  size : f.size = (lettersOf f).length
  letters : ∀ k ∈ lettersOf f, k ∈ letters8
  fit : fitP (formsP (b.toNat : Int)) ((lettersOf f).length : Int) = (f, true)
  text : s = encK (lettersOf f) (fieldsF f s) (lettersOf f).length
  kind : ∀ k, k < (lettersOf f).length → ((fieldsF f s).getD k zeroF).kind = (lettersOf f).getD k 0
  right : ∀ k, k < (lettersOf f).length → (writeP (((lettersOf f).getD k 0).toNat : Int) ((fieldsF f s).getD k zeroF)).2 = 0
  small : ∀ x ∈ fieldsF f s, FieldSm s.length x

theorem readP_kind {k : UInt8} (hk : k ∈ letters8) (r : List UInt8) : (readP k r).2.1.kind = k := by
  simp only [letters8, List.mem_cons, List.not_mem_nil, or_false] at hk
  rcases hk with rfl | rfl | rfl | rfl | rfl | rfl | rfl | rfl <;> rfl
theorem readsP_kind : ∀ (F r : List UInt8), (∀ k ∈ F, k ∈ letters8) → (readsP F r).2.1 = 0 → ∀ k, k < F.length → ((readsP F r).2.2.1.getD k zeroF).kind = F.getD k 0
  | [], _, _, _, k, hk => by simp at hk
  | c :: F, r, hl, h, k, hk => by
    by_cases h0 : (readP c r).1 = 0
    · rw [readsP_ok h0] at h ⊢
      cases k with
      | zero => simpa using readP_kind (hl c (by simp)) r
      | succ k => simpa using readsP_kind F _ (fun x hx => hl x (by simp [hx])) h k (by simpa using hk)
    · rw [readsP_no h0] at h
      exact absurd h h0
theorem msgP_parts {p : List UInt8} {b : UInt8} {f : ByteArray} {s : List UInt8} (h : msgP p = some (b, f, s)) : p = b :: s ∧ s.length ≤ 32767 ∧ fitsF f s = true ∧ Parts b f s := by
  cases p with
  | nil => cases h
  | cons c r =>
    have h' : (if 32767 < r.length then none else ((formsP (c.toNat : Int)).find? (fun f => fitsF f r)).map fun f => (c, f, r)) = some (b, f, s) := h
    by_cases hr : 32767 < r.length
    · rw [if_pos hr] at h'; cases h'
    · rw [if_neg hr] at h'
      cases hf : (formsP (c.toNat : Int)).find? (fun f => fitsF f r) with
      | none => rw [hf] at h'; cases h'
      | some g =>
        rw [hf] at h'
        simp only [Option.map_some, Option.some.injEq, Prod.mk.injEq] at h'
        obtain ⟨rfl, rfl, rfl⟩ := h'
        have hmem := List.mem_of_find?_eq_some hf
        have hfit : fitsF g r = true := by simpa using List.find?_some hf
        obtain ⟨h1, h2⟩ := fitsF_parts hfit
        have hl := forms_letters hmem
        obtain ⟨e1, e2⟩ := readsP_enc (lettersOf g) r hl.2 h1
        have hc := readsP_count (lettersOf g) r h1
        rw [h2, List.append_nil] at e1
        have hfs : g.size = (lettersOf g).length := by
          have := bs_size (lettersOf g)
          rwa [bs_letters] at this
        have hfitp : fitP (formsP (c.toNat : Int)) ((lettersOf g).length : Int) = (g, true) := by
          obtain ⟨i, hi, hfi⟩ := List.mem_iff_getElem.1 hmem
          have := fitP_self (formsP_apart (c.toNat : Int)) hi
          rw [hfi] at this
          rw [← hfs]
          exact this
        exact ⟨rfl, by omega, hfit, hmem, hc.2, hl.1, hfs, hl.2, hfitp, e1, readsP_kind _ _ hl.2 h1, e2, readsP_sm _ _ _ (Nat.le_refl _)⟩
theorem FieldSm.ok {m : Nat} {x : FieldR} (h : FieldSm m x) (hm : m ≤ 32767) : FieldOk x :=
  ⟨by have := h.n; omega, by have := h.s; omega, by have := h.l; omega, fun y hy => by have := h.ls y hy; omega⟩

/-- What Decode leaves. -/
def GdPost (p : List UInt8) (w : World) (r : Ending) (w' : World) : Prop :=
  Below w.heap.size w w' ∧ ((∃ b f s v, msgP p = some (b, f, s) ∧ r = .returned (.tuple #[msgV (b.toNat : Int) v, .nilIface]) ∧ FieldsKept w' v (fieldsF f s) w.heap.size) ∨ (msgP p = none ∧ ∃ t u, r = .returned (.tuple #[zeroM, .iface t u])))
theorem gdec_any {w : World} (p : List UInt8) (hp : p.length ≤ 1000000000) (hT : TabAt w) (hV : VarAt w) : Calls Tryz.prog 24 #[.string (bs p)] w (GdPost p w) := by
  cases p with
  | nil => exact (decode_empty w).mono fun r w' ⟨t, u, h1, _, h3⟩ => ⟨h3, .inr ⟨rfl, t, u, h1⟩⟩
  | cons b s =>
    rw [List.length_cons] at hp
    by_cases hl : 32767 < s.length
    · refine (decode_long (w := w) (s := bs (b :: s)) (by rw [bs_size, List.length_cons]; omega) (by rw [bs_size, List.length_cons]; omega)).mono fun r w' ⟨t, u, h1, _, h3⟩ => ⟨h3, .inr ⟨?_, t, u, h1⟩⟩
      show (if _ then _ else _) = _
      rw [if_pos hl]
    · by_cases hk : formsP (b.toNat : Int) = []
      · refine (decode_none (w := w) (s := bs (b :: s)) (b := b) (by rw [bs_size, List.length_cons]; omega) (by simp [bs]) hk).mono fun r w' ⟨t, u, h1, _, h3⟩ => ⟨h3, .inr ⟨msgP_no (by rw [hk]; rfl), t, u, h1⟩⟩
      · refine (decode_some (w := w) (s := s) (by omega) hk hT hV).mono fun r w' ⟨hb, hc⟩ => ⟨hb, ?_⟩
        rcases hc with ⟨f, v, h1, h2, h3⟩ | ⟨h1, t, u, h2, _⟩
        · exact .inl ⟨b, f, s, v, msgP_mk (by omega) h1, h2, h3⟩
        · exact .inr ⟨msgP_no h1, t, u, h2⟩
def RdPost (p : List UInt8) (w : World) (r : Ending) (w' : World) : Prop :=
  Below w.heap.size w w' ∧ ((∃ b f s v, msgP p = some (b, f, s) ∧ r = .returned (.tuple #[msgV (b.toNat : Int) v, .agg #[.int .i64 0, .string ⟨#[]⟩]]) ∧ FieldsAt w' v (fieldsF f s)) ∨ (msgP p = none ∧ ∃ c z, c ≠ 0 ∧ r = .returned (.tuple #[zeroM, .agg #[.int .i64 c, .string z]])))
theorem rgdec_any {w : World} (p : List UInt8) (hp : p.length ≤ 2000) : Calls Tryz.prog 34 #[.string (bs p)] w (RdPost p w) :=
  (rdec_any p hp).mono fun r w' ⟨hb, hc⟩ => ⟨hb, by
    rcases hc with ⟨path, code, h1, h2⟩ | ⟨b, s, f, v, rfl, _, h2, h3, h4⟩
    · refine .inr ⟨?_, code, _, failP_code h1, h2⟩
      cases p with
      | nil => rfl
      | cons b s =>
        cases hf : (formsP (b.toNat : Int)).find? (fun f => fitsF f s) with
        | none => exact msgP_no hf
        | some f =>
          exfalso
          by_cases hk : formsP (b.toNat : Int) = []
          · rw [hk] at hf; cases hf
          · rw [failP, if_neg hk, hf] at h1; cases h1
    · exact .inl ⟨b, f, s, v, msgP_mk (by simp at hp; omega) h2, h3, h4⟩⟩
end Go.Proofs.YtkmhdepohcncaaaGreatDoor
