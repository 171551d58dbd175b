/- Decode of any bytes: both sides, all ways. -/
import Derived.Test.YtpiklkbjfpfejaaGreatDoorRq3
import Derived.Test.YtpiklkbjfpfejaaGreatDoorWr2
namespace Go.Proofs.YtpiklkbjfpfejaaGreatDoor
open Go.RowKit

/-- Where bytes fail to be a message, and how. -/
def failP : List UInt8 → Option (List ByteArray × Int)
  | [] => some ([messageS], 4)
  | b :: s => if formsP (b.toNat : Int) = [] then some ([messageS], 6) else match (formsP (b.toNat : Int)).find? (fun f => fitsF f s) with
    | some _ => none
    | none => some ([wordP (b.toNat : Int), placeF (firstF (b.toNat : Int)) s], codeF (firstF (b.toNat : Int)) s)
theorem codeF_fits {f : ByteArray} {s : List UInt8} (h : fitsF f s = false) : codeF f s ≠ 0 := by
  unfold fitsF at h
  unfold codeF
  split
  · rename_i h1
    rw [decide_eq_true h1, Bool.true_and] at h
    exact of_decide_eq_false h
  · assumption
theorem firstF_mem {n : Int} (h : formsP n ≠ []) : firstF n ∈ formsP n := by
  unfold firstF
  have hp := List.length_pos_iff.2 h
  rw [List.getD_eq_getElem?_getD, List.getElem?_eq_getElem hp]
  exact List.getElem_mem hp
theorem failP_code {p : List UInt8} {path : List ByteArray} {code : Int} (h : failP p = some (path, code)) : code ≠ 0 := by
  cases p with
  | nil =>
    have h2 : some ([messageS], (4 : Int)) = some (path, code) := h
    injection h2 with h2
    injection h2 with _ h2
    omega
  | cons b s =>
    by_cases hk : formsP (b.toNat : Int) = []
    · rw [failP, if_pos hk] at h
      injection h with h2
      injection h2 with _ h2
      omega
    · rw [failP, if_neg hk] at h
      cases hf : (formsP (b.toNat : Int)).find? (fun f => fitsF f s) with
      | some f => rw [hf] at h; cases h
      | none =>
        rw [hf] at h
        injection h with h2
        injection h2 with _ h2
        rw [← h2]
        refine codeF_fits ?_
        rw [List.find?_eq_none] at hf
        simpa using hf _ (firstF_mem hk)

set_option maxRecDepth 100000 in
theorem decode_empty (w : World) : Calls Tryz.prog 11 #[.string ⟨#[]⟩] w fun r w' => ∃ t u, r = .returned (.tuple #[zeroM, .iface t u]) ∧ ErrAt w' (.iface t u) [messageS] (some 4) ∧ Below w.heap.size w w' := by
  have HO : Hid (∀ W, Calls Tryz.prog 15 #[.string messageS, .int .i64 4] W fun r w' => ∃ t u, r = .returned (.iface t u) ∧ ErrAt w' (.iface t u) [messageS] (some 4) ∧ Below W.heap.size W w') := fun W =>
    (fOf_any messageS 4 (by decide) W).mono fun r w' ⟨v', h1, h2, h3, h4⟩ => by
      cases h2
      exact ⟨_, _, h1, .fault ‹_› ‹_› ‹_› ‹_›, h4⟩
  unfold messageS zeroM at *
  have HB := Lib.hid ((Below.refl w.heap.size w).alloc (Nat.le_refl _) (.cells #[.int .i64 0, .slice none 0 0] 24))
  go_enter Tryz.func11, Tryz.ntmps11
  go_wp2_with fail
  go_at_call 15
  refine (HO.out _).mono ?_
  rintro r w1 ⟨t, u, rfl, he, b1⟩
  have hM1 := (Holds.new w 24 #[.int .i64 0, .slice none 0 0]).moves (Moves.ofBelow (S := nobody) b1) (fun h => h)
  have c0 := hM1.cell 0
  have c1 := hM1.cell 1
  have s0 := hM1.frozen 0
  have s1 := hM1.frozen 1
  go_wp2_with fail
  have hF := Holds.set (Holds.set hM1 0 (.int .i64 0)) 1 (.slice none 0 0)
  have mf : Moves (fun i => i = w.heap.size) w1 _ := ((Moves.refl (fun i => i = w.heap.size) w1).setCell (p := ⟨w.heap.size, 0, none⟩) (.inl rfl) (.int .i64 0)).setCell (p := ⟨w.heap.size, 1, none⟩) (.inl rfl) (.slice none 0 0)
  have hb1 := HB.out.trans (b1.mono HB.out.size)
  refine bodyPost_ret (results_row_tmp (p := 2) (u := 3) rfl _ _ w.heap.size _ _ (0, 0) _ rfl hF Tryz.underlying24 rfl (by kernel_rfl)) rfl ⟨_, _, rfl, he.set hM1 (fun x h => by cases h) mf, hb1.trans (mf.below hb1.size fun i h => Nat.le_of_eq h.symm)⟩
theorem dec_any {w : World} (p : List UInt8) (hp : p.length ≤ 2000) (hT : TabAt w) (hV : VarAt w) : Calls Tryz.prog 11 #[.string (bs p)] w fun r w' => Below w.heap.size w w' ∧
    ((∃ path code t u, failP p = some (path, code) ∧ r = .returned (.tuple #[zeroM, .iface t u]) ∧ ErrAt w' (.iface t u) path (some code)) ∨
     (∃ b s f v, p = b :: s ∧ failP p = none ∧ (formsP (b.toNat : Int)).find? (fun f => fitsF f s) = some f ∧ r = .returned (.tuple #[msgV (b.toNat : Int) v, .nilIface]) ∧ FieldsAt w' v (fieldsF f s))) := by
  cases p with
  | nil => exact (decode_empty w).mono fun r w' ⟨t, u, h1, h2, h3⟩ => ⟨h3, .inl ⟨_, _, t, u, rfl, h1, h2⟩⟩
  | cons b s =>
    by_cases hk : formsP (b.toNat : Int) = []
    · have h := decode_none (w := w) (s := bs (b :: s)) (b := b) (by rw [bs_size]; omega) (by simp [bs]) hk
      exact h.mono fun r w' ⟨t, u, h1, h2, h3⟩ => ⟨h3, .inl ⟨_, _, t, u, by rw [failP, if_pos hk], h1, h2⟩⟩
    · have hs : s.length ≤ 32767 := by rw [List.length_cons] at hp; omega
      refine (decode_some hs hk hT hV).mono fun r w' ⟨hb, hc⟩ => ⟨hb, ?_⟩
      rcases hc with ⟨f, v, h1, h2, h3⟩ | ⟨h1, t, u, h2, h3⟩
      · exact .inr ⟨b, s, f, v, rfl, by rw [failP, if_neg hk, h1], h1, h2, h3⟩
      · exact .inl ⟨_, _, t, u, by rw [failP, if_neg hk, h1], h2, h3⟩

def messageB : ByteArray := ⟨#[109, 101, 115, 115, 97, 103, 101, 32]⟩
set_option maxRecDepth 100000 in
theorem rdecode_empty (w : World) : Calls Tryz.prog 13 #[.string ⟨#[]⟩] w fun r w' => r = .returned (.tuple #[zeroM, .agg #[.int .i64 4, .string messageB]]) ∧ Below w.heap.size w w' := by
  have hM := (Holds.new w 24 #[.int .i64 0, .slice none 0 0]).moves ((Moves.refl nobody _).alloc (.cells #[.int .i64 0, .string ⟨#[]⟩] 33)) (fun h => h)
  have hE := Holds.new (w.alloc (.cells #[.int .i64 0, .slice none 0 0] 24)) 33 #[.int .i64 0, .string ⟨#[]⟩]
  rw [World.size_alloc] at hE
  have hB : Below w.heap.size w ((w.alloc (.cells #[.int .i64 0, .slice none 0 0] 24)).alloc (.cells #[.int .i64 0, .string ⟨#[]⟩] 33)) := ((Below.refl _ w).alloc (Nat.le_refl _) _).alloc (by simp) _
  have HM : Hid (Holds _ _ _ _) := hM
  have HE : Hid (Holds _ _ _ _) := hE
  have HB : Hid (Below _ _ _) := hB
  clear hM hE hB
  unfold messageB zeroM
  generalize hW : (w.alloc (.cells #[.int .i64 0, .slice none 0 0] 24)).alloc (.cells #[.int .i64 0, .string ⟨#[]⟩] 33) = W at *
  have d0 := HM.out.cell 0
  have d1 := HM.out.cell 1
  have f0 := HM.out.frozen 0
  have f1 := HM.out.frozen 1
  have e0 := HE.out.cell 0
  have e1 := HE.out.cell 1
  have k0 := HE.out.frozen 0
  have k1 := HE.out.frozen 1
  go_enter Tryz.func13, Tryz.ntmps13
  go_upto_region 2 with fail
  (try rw [hW])
  clear hW
  go_wp2_with fail
  have hF1 := Holds.set (Holds.set HM.out 0 (.int .i64 0)) 1 (.slice none 0 0)
  have mf1 : Moves (fun i => i = w.heap.size) W _ := ((Moves.refl (fun i => i = w.heap.size) _).setCell (p := ⟨w.heap.size, 0, none⟩) (.inl rfl) (.int .i64 0)).setCell (p := ⟨w.heap.size, 1, none⟩) (.inl rfl) (.slice none 0 0)
  have hE5 := Holds.moves HE.out mf1 (by omega)
  have hF2 := Holds.set (Holds.set hE5 0 (.int .i64 4)) 1 (.string ⟨#[109, 101, 115, 115, 97, 103, 101, 32]⟩)
  have mf2 : Moves (fun i => i = w.heap.size + 1) _ _ := ((Moves.refl (fun i => i = w.heap.size + 1) ((W.setCell ⟨w.heap.size, 0, none⟩ (.int .i64 0)).setCell ⟨w.heap.size, 1, none⟩ (.slice none 0 0))).setCell (p := ⟨w.heap.size + 1, 0, none⟩) (.inl rfl) (.int .i64 4)).setCell (p := ⟨w.heap.size + 1, 1, none⟩) (.inl rfl) (.string ⟨#[109, 101, 115, 115, 97, 103, 101, 32]⟩)
  have hF1b := Holds.moves hF1 mf2 (by omega)
  have mm : Moves (fun i => i = w.heap.size ∨ i = w.heap.size + 1) W _ := (mf1.mono fun i h _ => .inl h).trans mf2 fun i h => .inl (.inr h)
  try simp only [Exit.inBlock, Exit.then]
  refine bodyPost_ret (rdResults3 (p := 2) (q := 3) rfl _ _ w.heap.size (w.heap.size + 1) _ _ _ _ (0, 0) (0, 0) _ _ rfl hF1b rfl hF2 Tryz.underlying24 rfl (by kernel_rfl) Tryz.underlying33 rfl (by kernel_rfl)) rfl ⟨rfl, HB.out.trans (mm.below HB.out.size fun i h => by rcases h with h | h <;> omega)⟩
set_option maxRecDepth 100000 in
theorem rdecode_none {w : World} {b : UInt8} {s : List UInt8} (hs : s.length ≤ 10000) (hk : formsP (b.toNat : Int) = []) :
    Calls Tryz.prog 13 #[.string (bs (b :: s))] w fun r w' => r = .returned (.tuple #[zeroM, .agg #[.int .i64 6, .string messageB]]) ∧ Below w.heap.size w w' := by
  have hix : ∀ W : World, (Instr.index 9 (.string (bs (b :: s))) (.int .i64 0)).run Tryz.prog W = .ok (.int .u8 (b.toNat : Int)) W := fun W => index_bs (b :: s) 0 (by simp) W
  have hcv : ∀ W : World, (convert 5 3 (.int .u8 (b.toNat : Int))).run Tryz.prog W = .ok (.int .i64 (b.toNat : Int)) W := fun W => by
    have := UInt8.toNat_lt b
    have h : IntKind.i64.wrap (b.toNat : Int) = (b.toNat : Int) := IntWalk.i64_in _ (by omega)
    simp [go_sem, Tryz.underlying5, Tryz.underlying3, h]
  have hsz : (bs (b :: s)).size = s.length + 1 := by rw [bs_size]; rfl
  have q1 : decide (((s.length : Int) + 1) > 32768) = false := decide_eq_false (by omega)
  have q2 : decide (32768 < ((s.length : Int) + 1)) = false := decide_eq_false (by omega)
  have q3 : (((s.length : Int) + 1) == 0) = false := by rw [beq_eq_false_iff_ne]; omega
  have hsz2 : (bs (b :: s)).size ≤ 40000 := by omega
  have hof := ofP_forms (b.toNat : Int)
  rw [hk] at hof
  have HOf : Hid (∀ W, Calls Tryz.prog 22 #[.int .i64 (b.toNat : Int)] W fun e w' => ∃ z x ao cap, e = .returned (.agg #[.int .i64 z, .string x, .slice ao 0 cap]) ∧ Below W.heap.size W w') := fun W =>
    (of_any W (b.toNat : Int)).mono fun e w' ⟨v, h1, hv, h3⟩ => by
      rw [hof] at hv
      obtain ⟨ao, cap, h2, _⟩ := hv
      exact ⟨(ofP (b.toNat : Int)).1, (ofP (b.toNat : Int)).2.1, ao, cap, by rw [h1, h2]; rfl, h3⟩
  clear hof hk hs
  generalize (b.toNat : Int) = n at *
  generalize bs (b :: s) = P at *
  have hM := (Holds.new w 24 #[.int .i64 0, .slice none 0 0]).moves ((Moves.refl nobody _).alloc (.cells #[.int .i64 0, .string ⟨#[]⟩] 33)) (fun h => h)
  have hE := Holds.new (w.alloc (.cells #[.int .i64 0, .slice none 0 0] 24)) 33 #[.int .i64 0, .string ⟨#[]⟩]
  rw [World.size_alloc] at hE
  have hB : Below w.heap.size w ((w.alloc (.cells #[.int .i64 0, .slice none 0 0] 24)).alloc (.cells #[.int .i64 0, .string ⟨#[]⟩] 33)) := ((Below.refl _ w).alloc (Nat.le_refl _) _).alloc (by simp) _
  have HM0 := Lib.hid hM
  have HE0 := Lib.hid hE
  have HB0 := Lib.hid hB
  clear hM hE hB
  unfold messageB zeroM
  go_enter Tryz.func13, Tryz.ntmps13
  go_wp2_with fail
  go_at_call 22
  refine (HOf.out _).mono ?_
  rintro e' w1 ⟨z, x, ao, cap, rfl, b1⟩
  have HM : Hid (Holds _ _ _ _) := (HM0.out.moves (Moves.ofBelow (S := nobody) b1) (fun h => h)).moves ((Moves.refl nobody w1).alloc (.cells #[.int .i64 z, .string x, .slice ao 0 cap] 58)) (fun h => h)
  have HE : Hid (Holds _ _ _ _) := (HE0.out.moves (Moves.ofBelow (S := nobody) b1) (fun h => h)).moves ((Moves.refl nobody w1).alloc (.cells #[.int .i64 z, .string x, .slice ao 0 cap] 58)) (fun h => h)
  have HB : Hid (Below _ _ _) := (HB0.out.trans (b1.mono HB0.out.size)).alloc (Nat.le_trans HB0.out.size b1.size) (.cells #[.int .i64 z, .string x, .slice ao 0 cap] 58)
  have d0 := HM.out.cell 0
  have d1 := HM.out.cell 1
  have f0 := HM.out.frozen 0
  have f1 := HM.out.frozen 1
  have e0 := HE.out.cell 0
  have e1 := HE.out.cell 1
  have k0 := HE.out.frozen 0
  have k1 := HE.out.frozen 1
  clear b1 HM0 HE0 HB0 HOf
  go_wp2_with fail
  generalize w1.alloc (.cells #[.int .i64 z, .string x, .slice ao 0 cap] 58) = W2 at *
  have hF1 := Holds.set (Holds.set HM.out 0 (.int .i64 0)) 1 (.slice none 0 0)
  have mf1 : Moves (fun i => i = w.heap.size) W2 _ := ((Moves.refl (fun i => i = w.heap.size) _).setCell (p := ⟨w.heap.size, 0, none⟩) (.inl rfl) (.int .i64 0)).setCell (p := ⟨w.heap.size, 1, none⟩) (.inl rfl) (.slice none 0 0)
  have hE5 := Holds.moves HE.out mf1 (by omega)
  have hF2 := Holds.set (Holds.set hE5 0 (.int .i64 6)) 1 (.string ⟨#[109, 101, 115, 115, 97, 103, 101, 32]⟩)
  have mf2 : Moves (fun i => i = w.heap.size + 1) _ _ := ((Moves.refl (fun i => i = w.heap.size + 1) ((W2.setCell ⟨w.heap.size, 0, none⟩ (.int .i64 0)).setCell ⟨w.heap.size, 1, none⟩ (.slice none 0 0))).setCell (p := ⟨w.heap.size + 1, 0, none⟩) (.inl rfl) (.int .i64 6)).setCell (p := ⟨w.heap.size + 1, 1, none⟩) (.inl rfl) (.string ⟨#[109, 101, 115, 115, 97, 103, 101, 32]⟩)
  have hF1b := Holds.moves hF1 mf2 (by omega)
  have mm : Moves (fun i => i = w.heap.size ∨ i = w.heap.size + 1) W2 _ := (mf1.mono fun i h _ => .inl h).trans mf2 fun i h => .inl (.inr h)
  try simp only [Exit.inBlock, Exit.then]
  refine bodyPost_ret (rdResults3 (p := 2) (q := 3) rfl _ _ w.heap.size (w.heap.size + 1) _ _ _ _ (0, 0) (0, 0) _ _ rfl hF1b rfl hF2 Tryz.underlying24 rfl (by kernel_rfl) Tryz.underlying33 rfl (by kernel_rfl)) rfl ⟨rfl, HB.out.trans (mm.below HB.out.size fun i h => by rcases h with h | h <;> omega)⟩

theorem atP_two (a b : ByteArray) : atP [a, b] = a ++ blankS ++ (b ++ blankS) := by
  unfold atP blankS
  simp only [List.foldl_cons, List.foldl_nil]
  apply ByteArray.ext
  simp [ByteArray.data_append]
theorem messageB_at : atP [messageS] = messageB := by decide +kernel
theorem rdec_any {w : World} (p : List UInt8) (hp : p.length ≤ 2000) : Calls Tryz.prog 13 #[.string (bs p)] w fun r w' => Below w.heap.size w w' ∧
    ((∃ path code, failP p = some (path, code) ∧ r = .returned (.tuple #[zeroM, .agg #[.int .i64 code, .string (atP path)]])) ∨
     (∃ b s f v, p = b :: s ∧ failP p = none ∧ (formsP (b.toNat : Int)).find? (fun f => fitsF f s) = some f ∧ r = .returned (.tuple #[msgV (b.toNat : Int) v, .agg #[.int .i64 0, .string ⟨#[]⟩]]) ∧ FieldsAt w' v (fieldsF f s))) := by
  cases p with
  | nil => exact (rdecode_empty w).mono fun r w' ⟨h1, h2⟩ => ⟨h2, .inl ⟨_, _, rfl, by rw [messageB_at]; exact h1⟩⟩
  | cons b s =>
    rw [List.length_cons] at hp
    by_cases hk : formsP (b.toNat : Int) = []
    · exact (rdecode_none (w := w) (s := s) (by omega) hk).mono fun r w' ⟨h1, h2⟩ => ⟨h2, .inl ⟨_, _, by rw [failP, if_pos hk], by rw [messageB_at]; exact h1⟩⟩
    · refine (rdecode_some (w := w) (s := s) (by omega) hk).mono fun r w' ⟨hb, hc⟩ => ⟨hb, ?_⟩
      rcases hc with ⟨f, ao, m, cap, h1, h2, h3⟩ | ⟨h1, _, h2⟩
      · exact .inr ⟨b, s, f, _, rfl, by rw [failP, if_neg hk, h1], h1, h2, h3⟩
      · exact .inl ⟨_, _, by rw [failP, if_neg hk, h1], by rw [atP_two]; exact h2⟩
end Go.Proofs.YtpiklkbjfpfejaaGreatDoor
