/- Decode of any bytes: both sides, all ways.
Same of two messages that read as the same fields.
The walk of the law MsgDecodes.
The walk of the law MsgDecodes: where the payload is none.
The walk of the law MsgDecodes: where the payload is right. -/
import Derived.Test.YtpiklkbjfpfejaaGreatDoorRq3
import Derived.Test.YtpiklkbjfpfejaaGreatDoorWr2
import Derived.Test.YtpiklkbjfpfejaaGreatDoorMg1
import Derived.Test.YtpiklkbjfpfejaaGreatDoorNSm
import Derived.Deep.RegionHeld3
import Derived.Test.YtpiklkbjfpfejaaGreatDoorEd2
import Derived.Test.YtpiklkbjfpfejaaGreatDoorMe2
namespace Go.Proofs.YtpiklkbjfpfejaaGreatDoor
open Go.RowKit

/-- Where bytes fail to be a message, and how. -/
def failP : List UInt8 → Option (List ByteArray × Int)
  | [] => some ([messageS], 4)
  | b :: s => if formsP (b.toNat : Int) = [] then some ([messageS], 6) else match (formsP (b.toNat : Int)).find? (fun f => fitsF f s) with
    | some _ => none
    | none => some ([wordP (b.toNat : Int), placeF (firstF (b.toNat : Int)) s], codeF (firstF (b.toNat : Int)) s)
theorem codeF_fits {f : ByteArray} {s : List UInt8} (h : fitsF f s = false) : codeF f s ≠ 0 := by
  unfold fitsF at h
  unfold codeF
  split
  · rename_i h1
    rw [decide_eq_true h1, Bool.true_and] at h
    exact of_decide_eq_false h
  · assumption
theorem firstF_mem {n : Int} (h : formsP n ≠ []) : firstF n ∈ formsP n := by
  unfold firstF
  have hp := List.length_pos_iff.2 h
  rw [List.getD_eq_getElem?_getD, List.getElem?_eq_getElem hp]
  exact List.getElem_mem hp
theorem failP_code {p : List UInt8} {path : List ByteArray} {code : Int} (h : failP p = some (path, code)) : code ≠ 0 := by
  cases p with
  | nil =>
    have h2 : some ([messageS], (4 : Int)) = some (path, code) := h
    injection h2 with h2
    injection h2 with _ h2
    omega
  | cons b s =>
    by_cases hk : formsP (b.toNat : Int) = []
    · rw [failP, if_pos hk] at h
      injection h with h2
      injection h2 with _ h2
      omega
    · rw [failP, if_neg hk] at h
      cases hf : (formsP (b.toNat : Int)).find? (fun f => fitsF f s) with
      | some f => rw [hf] at h; cases h
      | none =>
        rw [hf] at h
        injection h with h2
        injection h2 with _ h2
        rw [← h2]
        refine codeF_fits ?_
        rw [List.find?_eq_none] at hf
        simpa using hf _ (firstF_mem hk)

set_option maxRecDepth 100000 in
theorem decode_empty (w : World) : Calls Tryz.prog 11 #[.string ⟨#[]⟩] w fun r w' => ∃ t u, r = .returned (.tuple #[zeroM, .iface t u]) ∧ ErrAt w' (.iface t u) [messageS] (some 4) ∧ Below w.heap.size w w' := by
  have HO : Hid (∀ W, Calls Tryz.prog 15 #[.string messageS, .int .i64 4] W fun r w' => ∃ t u, r = .returned (.iface t u) ∧ ErrAt w' (.iface t u) [messageS] (some 4) ∧ Below W.heap.size W w') := fun W =>
    (fOf_any messageS 4 (by decide) W).mono fun r w' ⟨v', h1, h2, h3, h4⟩ => by
      cases h2
      exact ⟨_, _, h1, .fault ‹_› ‹_› ‹_› ‹_›, h4⟩
  unfold messageS zeroM at *
  have HB := Lib.hid ((Below.refl w.heap.size w).alloc (Nat.le_refl _) (.cells #[.int .i64 0, .slice none 0 0] 24))
  go_enter Tryz.func11, Tryz.ntmps11
  go_wp2_with fail
  go_at_call 15
  refine (HO.out _).mono ?_
  rintro r w1 ⟨t, u, rfl, he, b1⟩
  have hM1 := (Holds.new w 24 #[.int .i64 0, .slice none 0 0]).moves (Moves.ofBelow (S := nobody) b1) (fun h => h)
  have c0 := hM1.cell 0
  have c1 := hM1.cell 1
  have s0 := hM1.frozen 0
  have s1 := hM1.frozen 1
  go_wp2_with fail
  have hF := Holds.set (Holds.set hM1 0 (.int .i64 0)) 1 (.slice none 0 0)
  have mf : Moves (fun i => i = w.heap.size) w1 _ := ((Moves.refl (fun i => i = w.heap.size) w1).setCell (p := ⟨w.heap.size, 0, none⟩) (.inl rfl) (.int .i64 0)).setCell (p := ⟨w.heap.size, 1, none⟩) (.inl rfl) (.slice none 0 0)
  have hb1 := HB.out.trans (b1.mono HB.out.size)
  refine bodyPost_ret (results_row_tmp (p := 2) (u := 3) rfl _ _ w.heap.size _ _ (0, 0) _ rfl hF Tryz.underlying24 rfl (by kernel_rfl)) rfl ⟨_, _, rfl, he.set hM1 (fun x h => by cases h) mf, hb1.trans (mf.below hb1.size fun i h => Nat.le_of_eq h.symm)⟩
theorem dec_any {w : World} (p : List UInt8) (hp : p.length ≤ 2000) (hT : TabAt w) (hV : VarAt w) : Calls Tryz.prog 11 #[.string (bs p)] w fun r w' => Below w.heap.size w w' ∧
    ((∃ path code t u, failP p = some (path, code) ∧ r = .returned (.tuple #[zeroM, .iface t u]) ∧ ErrAt w' (.iface t u) path (some code)) ∨
     (∃ b s f v, p = b :: s ∧ failP p = none ∧ (formsP (b.toNat : Int)).find? (fun f => fitsF f s) = some f ∧ r = .returned (.tuple #[msgV (b.toNat : Int) v, .nilIface]) ∧ FieldsAt w' v (fieldsF f s))) := by
  cases p with
  | nil => exact (decode_empty w).mono fun r w' ⟨t, u, h1, h2, h3⟩ => ⟨h3, .inl ⟨_, _, t, u, rfl, h1, h2⟩⟩
  | cons b s =>
    by_cases hk : formsP (b.toNat : Int) = []
    · have h := decode_none (w := w) (s := bs (b :: s)) (b := b) (by rw [bs_size]; omega) (by simp [bs]) hk
      exact h.mono fun r w' ⟨t, u, h1, h2, h3⟩ => ⟨h3, .inl ⟨_, _, t, u, by rw [failP, if_pos hk], h1, h2⟩⟩
    · have hs : s.length ≤ 32767 := by rw [List.length_cons] at hp; omega
      refine (decode_some hs hk hT hV).mono fun r w' ⟨hb, hc⟩ => ⟨hb, ?_⟩
      rcases hc with ⟨f, v, h1, h2, h3⟩ | ⟨h1, t, u, h2, h3⟩
      · exact .inr ⟨b, s, f, v, rfl, by rw [failP, if_neg hk, h1], h1, h2, h3⟩
      · exact .inl ⟨_, _, t, u, by rw [failP, if_neg hk, h1], h2, h3⟩

def messageB : ByteArray := ⟨#[109, 101, 115, 115, 97, 103, 101, 32]⟩
set_option maxRecDepth 100000 in
theorem rdecode_empty (w : World) : Calls Tryz.prog 13 #[.string ⟨#[]⟩] w fun r w' => r = .returned (.tuple #[zeroM, .agg #[.int .i64 4, .string messageB]]) ∧ Below w.heap.size w w' := by
  have hM := (Holds.new w 24 #[.int .i64 0, .slice none 0 0]).moves ((Moves.refl nobody _).alloc (.cells #[.int .i64 0, .string ⟨#[]⟩] 33)) (fun h => h)
  have hE := Holds.new (w.alloc (.cells #[.int .i64 0, .slice none 0 0] 24)) 33 #[.int .i64 0, .string ⟨#[]⟩]
  rw [World.size_alloc] at hE
  have hB : Below w.heap.size w ((w.alloc (.cells #[.int .i64 0, .slice none 0 0] 24)).alloc (.cells #[.int .i64 0, .string ⟨#[]⟩] 33)) := ((Below.refl _ w).alloc (Nat.le_refl _) _).alloc (by simp) _
  have HM : Hid (Holds _ _ _ _) := hM
  have HE : Hid (Holds _ _ _ _) := hE
  have HB : Hid (Below _ _ _) := hB
  clear hM hE hB
  unfold messageB zeroM
  generalize hW : (w.alloc (.cells #[.int .i64 0, .slice none 0 0] 24)).alloc (.cells #[.int .i64 0, .string ⟨#[]⟩] 33) = W at *
  have d0 := HM.out.cell 0
  have d1 := HM.out.cell 1
  have f0 := HM.out.frozen 0
  have f1 := HM.out.frozen 1
  have e0 := HE.out.cell 0
  have e1 := HE.out.cell 1
  have k0 := HE.out.frozen 0
  have k1 := HE.out.frozen 1
  go_enter Tryz.func13, Tryz.ntmps13
  go_upto_region 2 with fail
  (try rw [hW])
  clear hW
  go_wp2_with fail
  have hF1 := Holds.set (Holds.set HM.out 0 (.int .i64 0)) 1 (.slice none 0 0)
  have mf1 : Moves (fun i => i = w.heap.size) W _ := ((Moves.refl (fun i => i = w.heap.size) _).setCell (p := ⟨w.heap.size, 0, none⟩) (.inl rfl) (.int .i64 0)).setCell (p := ⟨w.heap.size, 1, none⟩) (.inl rfl) (.slice none 0 0)
  have hE5 := Holds.moves HE.out mf1 (by omega)
  have hF2 := Holds.set (Holds.set hE5 0 (.int .i64 4)) 1 (.string ⟨#[109, 101, 115, 115, 97, 103, 101, 32]⟩)
  have mf2 : Moves (fun i => i = w.heap.size + 1) _ _ := ((Moves.refl (fun i => i = w.heap.size + 1) ((W.setCell ⟨w.heap.size, 0, none⟩ (.int .i64 0)).setCell ⟨w.heap.size, 1, none⟩ (.slice none 0 0))).setCell (p := ⟨w.heap.size + 1, 0, none⟩) (.inl rfl) (.int .i64 4)).setCell (p := ⟨w.heap.size + 1, 1, none⟩) (.inl rfl) (.string ⟨#[109, 101, 115, 115, 97, 103, 101, 32]⟩)
  have hF1b := Holds.moves hF1 mf2 (by omega)
  have mm : Moves (fun i => i = w.heap.size ∨ i = w.heap.size + 1) W _ := (mf1.mono fun i h _ => .inl h).trans mf2 fun i h => .inl (.inr h)
  try simp only [Exit.inBlock, Exit.then]
  refine bodyPost_ret (rdResults3 (p := 2) (q := 3) rfl _ _ w.heap.size (w.heap.size + 1) _ _ _ _ (0, 0) (0, 0) _ _ rfl hF1b rfl hF2 Tryz.underlying24 rfl (by kernel_rfl) Tryz.underlying33 rfl (by kernel_rfl)) rfl ⟨rfl, HB.out.trans (mm.below HB.out.size fun i h => by rcases h with h | h <;> omega)⟩
set_option maxRecDepth 100000 in
theorem rdecode_none {w : World} {b : UInt8} {s : List UInt8} (hs : s.length ≤ 10000) (hk : formsP (b.toNat : Int) = []) :
    Calls Tryz.prog 13 #[.string (bs (b :: s))] w fun r w' => r = .returned (.tuple #[zeroM, .agg #[.int .i64 6, .string messageB]]) ∧ Below w.heap.size w w' := by
  have hix : ∀ W : World, (Instr.index 9 (.string (bs (b :: s))) (.int .i64 0)).run Tryz.prog W = .ok (.int .u8 (b.toNat : Int)) W := fun W => index_bs (b :: s) 0 (by simp) W
  have hcv : ∀ W : World, (convert 5 3 (.int .u8 (b.toNat : Int))).run Tryz.prog W = .ok (.int .i64 (b.toNat : Int)) W := fun W => by
    have := UInt8.toNat_lt b
    have h : IntKind.i64.wrap (b.toNat : Int) = (b.toNat : Int) := IntWalk.i64_in _ (by omega)
    simp [go_sem, Tryz.underlying5, Tryz.underlying3, h]
  have hsz : (bs (b :: s)).size = s.length + 1 := by rw [bs_size]; rfl
  have q1 : decide (((s.length : Int) + 1) > 32768) = false := decide_eq_false (by omega)
  have q2 : decide (32768 < ((s.length : Int) + 1)) = false := decide_eq_false (by omega)
  have q3 : (((s.length : Int) + 1) == 0) = false := by rw [beq_eq_false_iff_ne]; omega
  have hsz2 : (bs (b :: s)).size ≤ 40000 := by omega
  have hof := ofP_forms (b.toNat : Int)
  rw [hk] at hof
  have HOf : Hid (∀ W, Calls Tryz.prog 22 #[.int .i64 (b.toNat : Int)] W fun e w' => ∃ z x ao cap, e = .returned (.agg #[.int .i64 z, .string x, .slice ao 0 cap]) ∧ Below W.heap.size W w') := fun W =>
    (of_any W (b.toNat : Int)).mono fun e w' ⟨v, h1, hv, h3⟩ => by
      rw [hof] at hv
      obtain ⟨ao, cap, h2, _⟩ := hv
      exact ⟨(ofP (b.toNat : Int)).1, (ofP (b.toNat : Int)).2.1, ao, cap, by rw [h1, h2]; rfl, h3⟩
  clear hof hk hs
  generalize (b.toNat : Int) = n at *
  generalize bs (b :: s) = P at *
  have hM := (Holds.new w 24 #[.int .i64 0, .slice none 0 0]).moves ((Moves.refl nobody _).alloc (.cells #[.int .i64 0, .string ⟨#[]⟩] 33)) (fun h => h)
  have hE := Holds.new (w.alloc (.cells #[.int .i64 0, .slice none 0 0] 24)) 33 #[.int .i64 0, .string ⟨#[]⟩]
  rw [World.size_alloc] at hE
  have hB : Below w.heap.size w ((w.alloc (.cells #[.int .i64 0, .slice none 0 0] 24)).alloc (.cells #[.int .i64 0, .string ⟨#[]⟩] 33)) := ((Below.refl _ w).alloc (Nat.le_refl _) _).alloc (by simp) _
  have HM0 := Lib.hid hM
  have HE0 := Lib.hid hE
  have HB0 := Lib.hid hB
  clear hM hE hB
  unfold messageB zeroM
  go_enter Tryz.func13, Tryz.ntmps13
  go_wp2_with fail
  go_at_call 22
  refine (HOf.out _).mono ?_
  rintro e' w1 ⟨z, x, ao, cap, rfl, b1⟩
  have HM : Hid (Holds _ _ _ _) := (HM0.out.moves (Moves.ofBelow (S := nobody) b1) (fun h => h)).moves ((Moves.refl nobody w1).alloc (.cells #[.int .i64 z, .string x, .slice ao 0 cap] 58)) (fun h => h)
  have HE : Hid (Holds _ _ _ _) := (HE0.out.moves (Moves.ofBelow (S := nobody) b1) (fun h => h)).moves ((Moves.refl nobody w1).alloc (.cells #[.int .i64 z, .string x, .slice ao 0 cap] 58)) (fun h => h)
  have HB : Hid (Below _ _ _) := (HB0.out.trans (b1.mono HB0.out.size)).alloc (Nat.le_trans HB0.out.size b1.size) (.cells #[.int .i64 z, .string x, .slice ao 0 cap] 58)
  have d0 := HM.out.cell 0
  have d1 := HM.out.cell 1
  have f0 := HM.out.frozen 0
  have f1 := HM.out.frozen 1
  have e0 := HE.out.cell 0
  have e1 := HE.out.cell 1
  have k0 := HE.out.frozen 0
  have k1 := HE.out.frozen 1
  clear b1 HM0 HE0 HB0 HOf
  go_wp2_with fail
  generalize w1.alloc (.cells #[.int .i64 z, .string x, .slice ao 0 cap] 58) = W2 at *
  have hF1 := Holds.set (Holds.set HM.out 0 (.int .i64 0)) 1 (.slice none 0 0)
  have mf1 : Moves (fun i => i = w.heap.size) W2 _ := ((Moves.refl (fun i => i = w.heap.size) _).setCell (p := ⟨w.heap.size, 0, none⟩) (.inl rfl) (.int .i64 0)).setCell (p := ⟨w.heap.size, 1, none⟩) (.inl rfl) (.slice none 0 0)
  have hE5 := Holds.moves HE.out mf1 (by omega)
  have hF2 := Holds.set (Holds.set hE5 0 (.int .i64 6)) 1 (.string ⟨#[109, 101, 115, 115, 97, 103, 101, 32]⟩)
  have mf2 : Moves (fun i => i = w.heap.size + 1) _ _ := ((Moves.refl (fun i => i = w.heap.size + 1) ((W2.setCell ⟨w.heap.size, 0, none⟩ (.int .i64 0)).setCell ⟨w.heap.size, 1, none⟩ (.slice none 0 0))).setCell (p := ⟨w.heap.size + 1, 0, none⟩) (.inl rfl) (.int .i64 6)).setCell (p := ⟨w.heap.size + 1, 1, none⟩) (.inl rfl) (.string ⟨#[109, 101, 115, 115, 97, 103, 101, 32]⟩)
  have hF1b := Holds.moves hF1 mf2 (by omega)
  have mm : Moves (fun i => i = w.heap.size ∨ i = w.heap.size + 1) W2 _ := (mf1.mono fun i h _ => .inl h).trans mf2 fun i h => .inl (.inr h)
  try simp only [Exit.inBlock, Exit.then]
  refine bodyPost_ret (rdResults3 (p := 2) (q := 3) rfl _ _ w.heap.size (w.heap.size + 1) _ _ _ _ (0, 0) (0, 0) _ _ rfl hF1b rfl hF2 Tryz.underlying24 rfl (by kernel_rfl) Tryz.underlying33 rfl (by kernel_rfl)) rfl ⟨rfl, HB.out.trans (mm.below HB.out.size fun i h => by rcases h with h | h <;> omega)⟩

theorem atP_two (a b : ByteArray) : atP [a, b] = a ++ blankS ++ (b ++ blankS) := by
  unfold atP blankS
  simp only [List.foldl_cons, List.foldl_nil]
  apply ByteArray.ext
  simp [ByteArray.data_append]
theorem messageB_at : atP [messageS] = messageB := by decide +kernel
theorem rdec_any {w : World} (p : List UInt8) (hp : p.length ≤ 2000) : Calls Tryz.prog 13 #[.string (bs p)] w fun r w' => Below w.heap.size w w' ∧
    ((∃ path code, failP p = some (path, code) ∧ r = .returned (.tuple #[zeroM, .agg #[.int .i64 code, .string (atP path)]])) ∨
     (∃ b s f v, p = b :: s ∧ failP p = none ∧ (formsP (b.toNat : Int)).find? (fun f => fitsF f s) = some f ∧ r = .returned (.tuple #[msgV (b.toNat : Int) v, .agg #[.int .i64 0, .string ⟨#[]⟩]]) ∧ FieldsAt w' v (fieldsF f s))) := by
  cases p with
  | nil => exact (rdecode_empty w).mono fun r w' ⟨h1, h2⟩ => ⟨h2, .inl ⟨_, _, rfl, by rw [messageB_at]; exact h1⟩⟩
  | cons b s =>
    rw [List.length_cons] at hp
    by_cases hk : formsP (b.toNat : Int) = []
    · exact (rdecode_none (w := w) (s := s) (by omega) hk).mono fun r w' ⟨h1, h2⟩ => ⟨h2, .inl ⟨_, _, by rw [failP, if_pos hk], by rw [messageB_at]; exact h1⟩⟩
    · refine (rdecode_some (w := w) (s := s) (by omega) hk).mono fun r w' ⟨hb, hc⟩ => ⟨hb, ?_⟩
      rcases hc with ⟨f, ao, m, cap, h1, h2, h3⟩ | ⟨h1, _, h2⟩
      · exact .inr ⟨b, s, f, _, rfl, by rw [failP, if_neg hk, h1], h1, h2, h3⟩
      · exact .inl ⟨_, _, by rw [failP, if_neg hk, h1], by rw [atP_two]; exact h2⟩
end Go.Proofs.YtpiklkbjfpfejaaGreatDoor

namespace Go.Proofs.YtpiklkbjfpfejaaGreatDoor
open Go.RowKit

set_option maxHeartbeats 2000000 in
set_option maxRecDepth 100000 in
theorem same7_any {w : World} {v v' : Value} {fs : List FieldR} (h : FieldsAt w v fs) (h' : FieldsAt w v' fs) (hl : fs.length ≤ 1000) (num : Int) :
    Calls Tryz.prog 12 #[msgV num v, msgV num v'] w fun e w' => e = .returned (.bool true) ∧ Below w.heap.size w w' := by
  obtain ⟨ao, cap, rfl, hcap, hlen, hin, hf⟩ := h
  obtain ⟨ao', cap', rfl, hcap', hlen', hin', hf'⟩ := h'
  unfold msgV
  have hA := Holds.new w 24 #[.int .i64 num, .slice ao fs.length cap]
  have hB := Holds.new (w.alloc (.cells #[.int .i64 num, .slice ao fs.length cap] 24)) 24 #[.int .i64 num, .slice ao' fs.length cap']
  rw [World.size_alloc] at hB
  have HA : Hid (Holds ((w.alloc (.cells #[.int .i64 num, .slice ao fs.length cap] 24)).alloc (.cells #[.int .i64 num, .slice ao' fs.length cap'] 24)) w.heap.size 24 #[.int .i64 num, .slice ao fs.length cap]) := hA.moves ((Moves.refl nobody _).alloc _) (fun h => h)
  have HB := Lib.hid hB
  have HW0 : Hid (Below w.heap.size w ((w.alloc (.cells #[.int .i64 num, .slice ao fs.length cap] 24)).alloc (.cells #[.int .i64 num, .slice ao' fs.length cap'] 24))) := ((Below.refl _ w).alloc (Nat.le_refl _) _).alloc (by simp) _
  have HF : Hid (∀ W, Below w.heap.size w W → ∀ k (hk : k < fs.length), ∃ b off b' off', ao = some ⟨b, off, none⟩ ∧ ao' = some ⟨b', off', none⟩ ∧ FieldAt W b off k fs[k] ∧ FieldAt W b' off' k fs[k] ∧ b < w.heap.size ∧ b' < w.heap.size) := fun W hb k hk => by
    have hne : fs ≠ [] := by rintro rfl; simp at hk
    obtain ⟨b, off, e, hbl, hfa⟩ := hf hne
    obtain ⟨b', off', e', hbl', hfa'⟩ := hf' hne
    exact ⟨b, off, b', off', e, e', (hfa k _ (List.getElem?_eq_getElem hk)).below hbl hb, (hfa' k _ (List.getElem?_eq_getElem hk)).below hbl' hb, hbl, hbl'⟩
  have HIn : Hid (∀ k (hk : k < fs.length), fs[k].l.length ≤ maxLen) := fun k hk => by have := (hin _ (List.getElem_mem hk)).l; unfold maxLen; omega
  clear hA hB hf hf' hin hin'
  go_enter Tryz.func12, Tryz.ntmps12
  go_wp2_with fail
  have hW0 := HW0.out
  generalize (w.alloc (.cells #[.int .i64 num, .slice ao fs.length cap] 24)).alloc (.cells #[.int .i64 num, .slice ao' fs.length cap'] 24) = W0 at *
  go_loopw [5] (fun i wr => ∃ k : Nat, k ≤ fs.length ∧ i = .int .i64 k ∧ Below W0.heap.size W0 wr) (fun i _ => fs.length - (intOf i).toNat)
  case atStart => exact ⟨0, Nat.zero_le _, rfl, Below.refl _ _⟩
  case round =>
    obtain ⟨k, hk, rfl, hb⟩ := hrel
    have hAr := HA.out.moves (Moves.ofBelow (S := nobody) hb) (fun h => h)
    have hBr := HB.out.moves (Moves.ofBelow (S := nobody) hb) (fun h => h)
    have a1 : wr.cell? ⟨w.heap.size, 1, none⟩ = some (.slice ao fs.length cap) := hAr.cell 1
    have b1 : wr.cell? ⟨w.heap.size + 1, 1, none⟩ = some (.slice ao' fs.length cap') := hBr.cell 1
    have hbw := hW0.trans (hb.mono hW0.size)
    by_cases hlt : k < fs.length
    · obtain ⟨b, off, b', off', rfl, rfl, hx, hy, hbl, hbl'⟩ := HF.out wr hbw k hlt
      have HL := Lib.hid (HIn.out k hlt)
      have hsz : w.heap.size + 2 ≤ wr.heap.size := by have := HB.out.lt; have := hb.size; omega
      generalize fs[k] = x at *
      obtain ⟨x0, x1, x2, p, c, x3, _, hT⟩ := hx
      obtain ⟨y0, y1, y2, p', c', y3, _, hT'⟩ := hy
      have HT := Lib.hid hT
      have HT' := Lib.hid hT'
      have HBk := Lib.hid hb
      have a1d : wr.drew.cell? ⟨w.heap.size, 1, none⟩ = some (.slice (some ⟨b, off, none⟩) fs.length cap) := a1
      have b1d : wr.drew.cell? ⟨w.heap.size + 1, 1, none⟩ = some (.slice (some ⟨b', off', none⟩) fs.length cap') := b1
      have x0d : wr.drew.cell? ⟨b, off + k * 4, none⟩ = some (.int .u8 (x.kind.toNat : Int)) := x0
      have x1d : wr.drew.cell? ⟨b, off + k * 4 + 1, none⟩ = some (.int .i64 x.n) := x1
      have x2d : wr.drew.cell? ⟨b, off + k * 4 + 2, none⟩ = some (.string (bs x.s)) := x2
      have x3d : wr.drew.cell? ⟨b, off + k * 4 + 3, none⟩ = some (.slice p x.l.length c) := x3
      have y0d : wr.drew.cell? ⟨b', off' + k * 4, none⟩ = some (.int .u8 (x.kind.toNat : Int)) := y0
      have y1d : wr.drew.cell? ⟨b', off' + k * 4 + 1, none⟩ = some (.int .i64 x.n) := y1
      have y2d : wr.drew.cell? ⟨b', off' + k * 4 + 2, none⟩ = some (.string (bs x.s)) := y2
      have y3d : wr.drew.cell? ⟨b', off' + k * 4 + 3, none⟩ = some (.slice p' x.l.length c') := y3
      clear hT hT' hAr hBr hb hbw
      generalize bs x.s = S at *
      have HSm : Hid (∀ o1 o2 : Obj, Calls Tryz.prog 31 #[.slice p x.l.length c, .slice p' x.l.length c'] ((wr.alloc o1).alloc o2).drew fun e w' => e = .returned (.bool true) ∧ Below W0.heap.size W0 w') := fun o1 o2 => by
        have hb5 : Below wr.heap.size wr ((wr.alloc o1).alloc o2).drew := (((Below.refl _ wr).alloc (Nat.le_refl _) o1).alloc (by simp) o2).drew
        refine (same_any (HT.out.below hb5) (HT'.out.below hb5) (by rw [List.length_map]; exact HL.out)).mono fun e w' ⟨h1, h2⟩ => ⟨by rw [h1]; simp, ?_⟩
        exact (HBk.out.trans (hb5.mono HBk.out.size)).trans (h2.mono (by have := HBk.out.size; have := hb5.size; omega))
      have u1 := World.new_ne wr _ a1
      have u2 := World.new_ne wr _ b1
      have u3 := World.new_ne wr _ x0
      have u4 := World.new_ne wr _ y0
      simp only at u1 u2 u3 u4
      go_wp2_with fail
      go_region_held3 (fun w' => w'.cell? ⟨w.heap.size, 1, none⟩ = some (.slice (some ⟨b, off, none⟩) fs.length cap) ∧ w'.cell? ⟨w.heap.size + 1, 1, none⟩ = some (.slice (some ⟨b', off', none⟩) fs.length cap') ∧ w'.cell? ⟨b, off + k * 4, none⟩ = some (.int .u8 (x.kind.toNat : Int)) ∧ w'.cell? ⟨b, off + k * 4 + 1, none⟩ = some (.int .i64 x.n) ∧ w'.cell? ⟨b, off + k * 4 + 2, none⟩ = some (.string S) ∧ w'.cell? ⟨b, off + k * 4 + 3, none⟩ = some (.slice p x.l.length c) ∧ w'.cell? ⟨b', off' + k * 4, none⟩ = some (.int .u8 (x.kind.toNat : Int)) ∧ w'.cell? ⟨b', off' + k * 4 + 1, none⟩ = some (.int .i64 x.n) ∧ w'.cell? ⟨b', off' + k * 4 + 2, none⟩ = some (.string S) ∧ w'.cell? ⟨b', off' + k * 4 + 3, none⟩ = some (.slice p' x.l.length c')) (go_keep) (fail)
      all_goals
        go_wp2_with (go_at_call 31; refine (HSm.out _ _).mono ?_; rintro e' w7 ⟨rfl, b7⟩)
        go_roundw
        case rel => exact ⟨k + 1, by omega, by go_num, b7⟩
        case measure => simp [intOf]; omega
    · have hkl : k = fs.length := by omega
      have HBe := Lib.hid hbw
      clear hAr hBr hb hbw
      go_wp2_with fail
      go_ret
      exact ⟨rfl, HBe.out⟩
end Go.Proofs.YtpiklkbjfpfejaaGreatDoor

namespace Go.Proofs.YtpiklkbjfpfejaaGreatDoor
open Go.RowKit

theorem failP_path {p : List UInt8} {path : List ByteArray} {code : Int} (h : failP p = some (path, code)) : path.length ≤ 20 ∧ ∀ x ∈ path, x.size ≤ 1000 := by
  have hw : ∀ n : Int, (wordP n).size ≤ 100 := fun n => by
    unfold wordP
    cases hr : rowP n with
    | none => exact Nat.zero_le _
    | some r =>
      have hm := List.mem_of_find?_eq_some hr
      have : ∀ r ∈ tableP, r.2.1.size ≤ 100 := by decide
      exact this r hm
  have hmsg : messageS.size ≤ 1000 := by decide
  cases p with
  | nil =>
    have h2 : some ([messageS], (4 : Int)) = some (path, code) := h
    injection h2 with h2
    injection h2 with h2 _
    subst h2
    exact ⟨by simp, fun x hx => by simp at hx; rw [hx]; exact hmsg⟩
  | cons b s =>
    by_cases hk : formsP (b.toNat : Int) = []
    · rw [failP, if_pos hk] at h
      injection h with h2
      injection h2 with h2 _
      subst h2
      exact ⟨by simp, fun x hx => by simp at hx; rw [hx]; exact hmsg⟩
    · rw [failP, if_neg hk] at h
      cases hf : (formsP (b.toNat : Int)).find? (fun f => fitsF f s) with
      | some f => rw [hf] at h; cases h
      | none =>
        rw [hf] at h
        injection h with h2
        injection h2 with h2 _
        subst h2
        refine ⟨by simp, fun x hx => ?_⟩
        simp only [List.mem_cons, List.not_mem_nil, or_false] at hx
        rcases hx with rfl | rfl
        · have := hw (b.toNat : Int); omega
        · have := placeF_size (firstF_mem hk) s; omega

theorem zeroFields (W : World) : FieldsAt W (.slice none 0 0) [] := ⟨none, 0, rfl, Nat.le_refl _, Nat.zero_le _, by simp, fun h => absurd rfl h⟩
theorem same7_zero (W : World) : Calls Tryz.prog 12 #[zeroM, zeroM] W fun r w' => r = .returned (.bool true) ∧ Below W.heap.size W w' :=
  same7_any (w := W) (v := .slice none 0 0) (v' := .slice none 0 0) (fs := []) (zeroFields W) (zeroFields W) (Nat.zero_le _) 0
theorem dec_fail {w : World} {p : List UInt8} (hp : p.length ≤ 2000) {path : List ByteArray} {code : Int} (hf : failP p = some (path, code)) (hT : TabAt w) (hV : VarAt w) :
    Calls Tryz.prog 11 #[.string (bs p)] w fun r w' => ∃ t u, r = .returned (.tuple #[zeroM, .iface t u]) ∧ ErrAt w' (.iface t u) path (some code) ∧ Below w.heap.size w w' :=
  (dec_any p hp hT hV).mono fun r w' ⟨hb, hc⟩ => by
    rcases hc with ⟨path', code', t, u, e1, e2, e3⟩ | ⟨b, s, f, v, _, e2, _⟩
    · rw [hf] at e1
      cases e1
      exact ⟨t, u, e2, e3, hb⟩
    · rw [hf] at e2; cases e2
theorem rdec_fail {w : World} {p : List UInt8} (hp : p.length ≤ 2000) {path : List ByteArray} {code : Int} (hf : failP p = some (path, code)) :
    Calls Tryz.prog 13 #[.string (bs p)] w fun r w' => r = .returned (.tuple #[zeroM, .agg #[.int .i64 code, .string (atP path)]]) ∧ Below w.heap.size w w' :=
  (rdec_any p hp).mono fun r w' ⟨hb, hc⟩ => by
    rcases hc with ⟨path', code', e1, e2⟩ | ⟨b, s, f, v, _, e2, _⟩
    · rw [hf] at e1
      cases e1
      exact ⟨e2, hb⟩
    · rw [hf] at e2; cases e2
theorem wrong_fail {w : World} {t : TypeId} {u : Value} {p : List UInt8} {path : List ByteArray} {code : Int} (hf : failP p = some (path, code)) (hg : TypeOfError w) (he : ErrAt w (.iface t u) path (some code)) :
    Calls Tryz.prog 10 #[.iface t u, .agg #[.int .i64 code, .string (atP path)]] w fun r w' => r = .returned (.bool true) ∧ Below w.heap.size w w' :=
  @wrong_any w t u path (some code) hg he (failP_path hf).1 (failP_path hf).2
end Go.Proofs.YtpiklkbjfpfejaaGreatDoor

namespace Go.Proofs.YtpiklkbjfpfejaaGreatDoor
open Go.RowKit
set_option maxHeartbeats 1000000 in
set_option maxRecDepth 100000 in
theorem msgDecodes_fail {w : World} (p : List UInt8) (hp : p.length ≤ 2000) {path : List ByteArray} {code : Int} (hf : failP p = some (path, code)) (hT : TabAt w) (hV : VarAt w) (hg : TypeOfError w) :
    Calls Tryz.prog 4 #[.string (bs p)] w fun e w' => e = .returned (.bool true) ∧ Below w.heap.size w w' := by
  have hsz := bs_size p
  have hlen : ((bs p).size : Int) ≤ 2000 := by omega
  have hc0 := failP_code hf
  have HAw := Lib.hid (fun (W : World) (hb : Below w.heap.size w W) => awake7_any (hT.below hb))
  have HD := Lib.hid (dec_fail hp hf hT hV)
  have HR := Lib.hid (fun (W : World) => rdec_fail (w := W) hp hf)
  have HWr := Lib.hid (fun (W : World) (hb : Below w.heap.size w W) (t : TypeId) (u : Value) => wrong_fail (w := W) (t := t) (u := u) hf (hg.later hb))
  have HSm := Lib.hid same7_zero
  have q1 : (code != 0) = true := by rw [bne_iff_ne]; exact hc0
  have q2 : decide ((2000 : Int) < (bs p).size) = false := by simp; omega
  clear hsz hc0 hf hT hV hg hp hlen
  unfold zeroM at *
  generalize bs p = P at *
  generalize atP path = AP at *
  go_enter Tryz.func4, Tryz.ntmps4
  go_wp2_with (first
    | (go_at_call 11; with_reducible refine HD.out.mono ?_; rintro r w1 ⟨t, u, rfl, he1, b1⟩; have hZ := Holds.new w1 24 #[.int .i64 0, .slice none 0 0]; have z0 := hZ.cell 0; have z1 := hZ.cell 1; have s0 := hZ.frozen 0; have s1 := hZ.frozen 1)
    | (go_at_call 13; with_reducible refine (HR.out _).mono ?_; rintro r w2 ⟨rfl, b2⟩
       have hY := Holds.new (w2.alloc (.cells #[.int .i64 0, .slice none 0 0] 24)) 33 #[.int .i64 code, .string AP]
       have y0 := hY.cell 0; have y1 := hY.cell 1; have r0 := hY.frozen 0; have r1 := hY.frozen 1)
    | fail)
  have hM1 : Holds w2 w1.heap.size 24 #[.int .i64 0, .slice none 0 0] := hZ.moves (Moves.ofBelow (S := nobody) b2) (fun h => h)
  have b3 : Below w2.heap.size w2 ((w2.alloc (.cells #[.int .i64 0, .slice none 0 0] 24)).alloc (.cells #[.int .i64 code, .string AP] 33)) := ((Below.refl w2.heap.size w2).alloc (Nat.le_refl _) _).alloc (by simp) _
  have hM2 := hM1.moves (Moves.ofBelow (S := nobody) b3) (fun h => h)
  have bz : Below w1.heap.size w1 (w1.alloc (.cells #[.int .i64 0, .slice none 0 0] 24)) := (Below.refl _ _).alloc (Nat.le_refl _) _
  have he3 := ((he1.later bz).later b2).later b3
  have hb3 := ((b1.trans (bz.mono b1.size)).trans (b2.mono (Nat.le_trans b1.size bz.size))).trans (b3.mono (Nat.le_trans b1.size (Nat.le_trans bz.size b2.size)))
  rw [World.size_alloc] at hY
  clear hZ z0 z1 s0 s1 y0 y1 r0 r1 hM1 b1 b2 b3 bz he1
  generalize (w2.alloc (.cells #[.int .i64 0, .slice none 0 0] 24)).alloc (.cells #[.int .i64 code, .string AP] 33) = W3 at *
  generalize w1.heap.size = A at *
  generalize w2.heap.size + 1 = B at *
  refine (HAw.out _ hb3).mono ?_
  rintro r w4 ⟨rfl, b4⟩
  have hb4 := hb3.trans (b4.mono hb3.size)
  have he4 := he3.later b4
  have hM4 := hM2.moves (Moves.ofBelow (S := nobody) b4) (fun h => h)
  have hY4 := hY.moves (Moves.ofBelow (S := nobody) b4) (fun h => h)
  have y0 := hY4.cell 0; have y1 := hY4.cell 1; have r0 := hY4.frozen 0; have r1 := hY4.frozen 1
  clear hM2 hY hb3 he3 b4
  go_wp2_with (first
    | (go_at_call 10; with_reducible refine (HWr.out _ hb4 _ _ he4).mono ?_; rintro r w5 ⟨rfl, b5⟩
       have hb5 := hb4.trans (b5.mono hb4.size)
       have hM5 := hM4.moves (Moves.ofBelow (S := nobody) b5) (fun h => h)
       have z0 := hM5.cell 0; have z1 := hM5.cell 1; have s0 := hM5.frozen 0; have s1 := hM5.frozen 1)
    | (go_at_call 12; with_reducible refine (HSm.out _).mono ?_; rintro r w6 ⟨rfl, b6⟩
       have hb6 := hb5.trans (b6.mono hb5.size))
    | fail)
  go_ret
  exact ⟨rfl, hb6⟩
end Go.Proofs.YtpiklkbjfpfejaaGreatDoor

namespace Go.Proofs.YtpiklkbjfpfejaaGreatDoor
open Go.RowKit
theorem failP_none {p : List UInt8} (h : failP p = none) : ∃ b s f, p = b :: s ∧ (formsP (b.toNat : Int)).find? (fun f => fitsF f s) = some f := by
  cases p with
  | nil => exact absurd h (by simp [failP])
  | cons b s =>
    by_cases hk : formsP (b.toNat : Int) = []
    · rw [failP, if_pos hk] at h; cases h
    · rw [failP, if_neg hk] at h
      cases hf : (formsP (b.toNat : Int)).find? (fun f => fitsF f s) with
      | some f => exact ⟨b, s, f, rfl, hf⟩
      | none => rw [hf] at h; cases h
theorem nextB_self (b : UInt8) : nextB (b.toNat : Int) = b := by
  unfold nextB
  have := b.toNat_lt
  have e : ((b.toNat : Int) % 256).toNat = b.toNat := by omega
  rw [e]
  exact UInt8.ofNat_toNat
theorem dec_right {w : World} {b : UInt8} {s : List UInt8} {f : ByteArray} (hp : (b :: s).length ≤ 2000) (hn : failP (b :: s) = none) (hf : (formsP (b.toNat : Int)).find? (fun f => fitsF f s) = some f) (hT : TabAt w) (hV : VarAt w) :
    Calls Tryz.prog 11 #[.string (bs (b :: s))] w fun r w' => ∃ ao, ∃ L cap : Nat, r = .returned (.tuple #[.agg #[.int .i64 (b.toNat : Int), .slice ao L cap], .nilIface]) ∧ FieldsAt w' (.slice ao L cap) (fieldsF f s) ∧ Below w.heap.size w w' :=
  (dec_any (b :: s) hp hT hV).mono fun r w' ⟨hb, hc⟩ => by
    rcases hc with ⟨path', code', t, u, e1, e2, e3⟩ | ⟨b', s', f', v, e0, _, e2, e3, e4⟩
    · rw [hn] at e1; cases e1
    · cases e0
      rw [hf] at e2
      cases e2
      have e5 := e4
      obtain ⟨ao, cap, rfl, _⟩ := e5
      exact ⟨ao, _, cap, e3, e4, hb⟩
theorem rdec_right {w : World} {b : UInt8} {s : List UInt8} {f : ByteArray} (hp : (b :: s).length ≤ 2000) (hn : failP (b :: s) = none) (hf : (formsP (b.toNat : Int)).find? (fun f => fitsF f s) = some f) :
    Calls Tryz.prog 13 #[.string (bs (b :: s))] w fun r w' => ∃ ao, ∃ L cap : Nat, r = .returned (.tuple #[.agg #[.int .i64 (b.toNat : Int), .slice ao L cap], .agg #[.int .i64 0, .string ⟨#[]⟩]]) ∧ FieldsAt w' (.slice ao L cap) (fieldsF f s) ∧ Below w.heap.size w w' :=
  (rdec_any (b :: s) hp).mono fun r w' ⟨hb, hc⟩ => by
    rcases hc with ⟨path', code', e1, e2⟩ | ⟨b', s', f', v, e0, _, e2, e3, e4⟩
    · rw [hn] at e1; cases e1
    · cases e0
      rw [hf] at e2
      cases e2
      have e5 := e4
      obtain ⟨ao, cap, rfl, _⟩ := e5
      exact ⟨ao, _, cap, e3, e4, hb⟩
theorem fieldsF_len {n : Int} {f : ByteArray} {s : List UInt8} (hf : f ∈ formsP n) (hfit : fitsF f s = true) : (fieldsF f s).length ≤ 1000 := by
  have := (readsP_count (lettersOf f) s (fitsF_parts hfit).1).2
  have := (forms_letters hf).1
  unfold fieldsF
  omega
set_option maxHeartbeats 1000000 in
set_option maxRecDepth 100000 in
theorem msgDecodes_right {w : World} (b : UInt8) (s : List UInt8) (f : ByteArray) (hp : (b :: s).length ≤ 2000) (hn : failP (b :: s) = none) (hf : (formsP (b.toNat : Int)).find? (fun f => fitsF f s) = some f) (hT : TabAt w) (hV : VarAt w) :
    Calls Tryz.prog 4 #[.string (bs (b :: s))] w fun e w' => e = .returned (.bool true) ∧ Below w.heap.size w w' := by
  have hmem := List.mem_of_find?_eq_some hf
  have hfit : fitsF f s = true := List.find?_some (p := fun f => fitsF f s) hf
  have hl := fieldsF_len hmem hfit
  have hsl : s.length ≤ 10000 := by rw [List.length_cons] at hp; omega
  have hsz := bs_size (b :: s)
  have hlen : ((bs (b :: s)).size : Int) ≤ 2000 := by omega
  have HAw := Lib.hid (fun (W : World) (hb : Below w.heap.size w W) => awake7_any (hT.below hb))
  have HD := Lib.hid (dec_right hp hn hf hT hV)
  have HR := Lib.hid (fun (W : World) => rdec_right (w := W) hp hn hf)
  have HEn : Hid (∀ (W : World) (hb : Below w.heap.size w W) (ao : Option Addr) (L cap : Nat), FieldsAt W (.slice ao L cap) (fieldsF f s) → Calls Tryz.prog 8 #[.agg #[.int .i64 (b.toNat : Int), .slice ao L cap]] W fun e w' => e = .returned (.tuple #[.string (bs (b :: s)), .nilIface]) ∧ Below W.heap.size W w') := fun W hb ao L cap hv => by
    have h := decoded_encodes (w := W) hmem hfit hsl hv (hT.below hb)
    rw [nextB_self] at h
    exact h
  have HSm : Hid (∀ (W : World) (ao ao' : Option Addr) (L cap L' cap' : Nat), FieldsAt W (.slice ao L cap) (fieldsF f s) → FieldsAt W (.slice ao' L' cap') (fieldsF f s) → Calls Tryz.prog 12 #[.agg #[.int .i64 (b.toNat : Int), .slice ao L cap], .agg #[.int .i64 (b.toNat : Int), .slice ao' L' cap']] W fun e w' => e = .returned (.bool true) ∧ Below W.heap.size W w') := fun W ao ao' L cap L' cap' h h' => same7_any h h' hl _
  have q2 : decide ((2000 : Int) < (bs (b :: s)).size) = false := by simp; omega
  clear hsz hn hf hT hV hp hlen hl hsl hfit hmem
  generalize bs (b :: s) = P at *
  generalize fieldsF f s = fs at *
  generalize (b.toNat : Int) = n at *
  go_enter Tryz.func4, Tryz.ntmps4
  go_wp2_with (first
    | (go_at_call 11; with_reducible refine HD.out.mono ?_; rintro r w1 ⟨ao, L, cap, rfl, f1, b1⟩; have hZ := Holds.new w1 24 #[.int .i64 n, .slice ao L cap]; have z0 := hZ.cell 0; have z1 := hZ.cell 1; have s0 := hZ.frozen 0; have s1 := hZ.frozen 1)
    | (go_at_call 13; with_reducible refine (HR.out _).mono ?_; rintro r w2 ⟨ao2, L2, cap2, rfl, f2, b2⟩
       have hM2 : Holds w2 w1.heap.size 24 #[.int .i64 n, .slice ao L cap] := hZ.moves (Moves.ofBelow (S := nobody) b2) (fun h => h)
       have hX := Holds.new w2 24 #[.int .i64 n, .slice ao2 L2 cap2]
       have hY := Holds.new (w2.alloc (.cells #[.int .i64 n, .slice ao2 L2 cap2] 24)) 33 #[.int .i64 0, .string ⟨#[]⟩]
       have hX3 := hX.moves ((Moves.refl nobody _).alloc (.cells #[.int .i64 0, .string ⟨#[]⟩] 33)) (fun h => h)
       have hM3 := (hM2.moves ((Moves.refl nobody _).alloc (.cells #[.int .i64 n, .slice ao2 L2 cap2] 24)) (fun h => h)).moves ((Moves.refl nobody _).alloc (.cells #[.int .i64 0, .string ⟨#[]⟩] 33)) (fun h => h)
       have b3 : Below w2.heap.size w2 ((w2.alloc (.cells #[.int .i64 n, .slice ao2 L2 cap2] 24)).alloc (.cells #[.int .i64 0, .string ⟨#[]⟩] 33)) := ((Below.refl w2.heap.size w2).alloc (Nat.le_refl _) _).alloc (by simp) _
       have bz : Below w1.heap.size w1 (w1.alloc (.cells #[.int .i64 n, .slice ao L cap] 24)) := (Below.refl _ _).alloc (Nat.le_refl _) _
       have f1c := ((f1.below bz).below b2).below b3
       have f2c := f2.below b3
       have hb3 := ((b1.trans (bz.mono b1.size)).trans (b2.mono (Nat.le_trans b1.size bz.size))).trans (b3.mono (Nat.le_trans b1.size (Nat.le_trans bz.size b2.size)))
       have y0 := hY.cell 0; have y1 := hY.cell 1; have r0 := hY.frozen 0; have r1 := hY.frozen 1
       have m0 := hM3.cell 0; have m1 := hM3.cell 1; have n0 := hM3.frozen 0; have n1 := hM3.frozen 1)
    | fail)
  clear hZ z0 z1 s0 s1 y0 y1 r0 r1 m0 m1 n0 n1 hM2 hX hY b1 b2 b3 bz f1 f2
  generalize (w2.alloc (.cells #[.int .i64 n, .slice ao2 L2 cap2] 24)).alloc (.cells #[.int .i64 0, .string ⟨#[]⟩] 33) = W3 at *
  generalize w1.heap.size = A at *
  generalize w2.heap.size = B at *
  refine (HEn.out _ hb3 _ _ _ f1c).mono ?_
  rintro r w4 ⟨rfl, b4⟩
  have hb4 := hb3.trans (b4.mono hb3.size)
  have f1d := f1c.below b4
  have f2d := f2c.below b4
  have hM4 := hM3.moves (Moves.ofBelow (S := nobody) b4) (fun h => h)
  have hX4 := hX3.moves (Moves.ofBelow (S := nobody) b4) (fun h => h)
  have hq : (P.toList == P.toList) = true := by simp
  clear hM3 hX3 f1c f2c hb3 b4
  go_wp2_with (first
    | (go_at_call 7; with_reducible refine (HAw.out _ hb4).mono ?_; rintro r w5 ⟨rfl, b5⟩
       have hb5 := hb4.trans (b5.mono hb4.size)
       have f1e := f1d.below b5
       have f2e := f2d.below b5
       have hM5 := hM4.moves (Moves.ofBelow (S := nobody) b5) (fun h => h)
       have hX5 := hX4.moves (Moves.ofBelow (S := nobody) b5) (fun h => h)
       have z0 := hM5.cell 0; have z1 := hM5.cell 1; have s0 := hM5.frozen 0; have s1 := hM5.frozen 1
       have y0 := hX5.cell 0; have y1 := hX5.cell 1; have r0 := hX5.frozen 0; have r1 := hX5.frozen 1)
    | (go_at_call 12; with_reducible refine (HSm.out _ _ _ _ _ _ _ f1e f2e).mono ?_; rintro r w6 ⟨rfl, b6⟩
       have hb6 := hb5.trans (b6.mono hb5.size))
    | fail)
  go_ret
  exact ⟨rfl, hb6⟩
end Go.Proofs.YtpiklkbjfpfejaaGreatDoor
