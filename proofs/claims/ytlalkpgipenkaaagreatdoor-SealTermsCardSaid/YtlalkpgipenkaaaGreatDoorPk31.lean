/- Part 31 of what the statement wants. -/
import Derived.Deep.RegionHeld3
import Derived.Test.YtlalkpgipenkaaaGreatDoorPk19
import Derived.Test.YtlalkpgipenkaaaGreatDoorPk25
import Derived.Test.YtlalkpgipenkaaaGreatDoorPk27
import Derived.Test.YtlalkpgipenkaaaGreatDoorPk28
import Derived.Test.YtlalkpgipenkaaaGreatDoorPk29
import Derived.Test.YtlalkpgipenkaaaGreatDoorPk30
namespace Go.Proofs.YtlalkpgipenkaaaGreatDoor
open Go.RowKit

theorem fixedP_inv {right : List UInt8 → Bool} {n : Nat} {rest : List UInt8} (h : (fixedP right (n : Int) rest 0).2.2 = 0) :
    rest = (fixedP right (n : Int) rest 0).1 ++ (fixedP right (n : Int) rest 0).2.1 ∧ (fixedP right (n : Int) rest 0).1.length = n ∧ right (fixedP right (n : Int) rest 0).1 = true := by
  unfold fixedP at h ⊢
  rw [if_neg (by simp)] at h ⊢
  split at h
  · simp at h
  · rename_i hn
    rw [if_neg hn]
    split at h
    · rename_i hr
      rw [if_pos hr]
      simp only [Int.toNat_natCast] at hr ⊢
      exact ⟨(List.take_append_drop _ _).symm, by rw [List.length_take]; omega, hr⟩
    · simp at h
theorem u32Q_inv {rest : List UInt8} (h : (u32Q rest 0).2.2 = 0) : rest = pack4 (u32Q rest 0).1 ++ (u32Q rest 0).2.1 := by
  have hf := fixedP_inv (right := anyR) (n := 4) (rest := rest) h
  have h1 : (u32Q rest 0).1 = numL (fixedP anyR (4 : Nat) rest 0).1 := rfl
  have h2 : (u32Q rest 0).2.1 = (fixedP anyR (4 : Nat) rest 0).2.1 := rfl
  rw [h1, h2]
  obtain ⟨e, hl, _⟩ := hf
  generalize (fixedP anyR ((4 : Nat) : Int) rest 0).1 = a at *
  have : pack4 (numL a) = a := by
    match a, hl with
    | [a0, a1, a2, a3], _ => rw [numL_four, pack_num4 rfl]
  rw [this]
  exact e
theorem countedP_inv {right : List UInt8 → Bool} {rest : List UInt8} (h : (countedP right rest 0).2.2 = 0) : rest = cnt (countedP right rest 0).1 ++ (countedP right rest 0).2.1 ∧ right (countedP right rest 0).1 = true := by
  unfold countedP at h ⊢
  simp only at h ⊢
  split at h
  · rename_i hf
    rw [if_pos hf]
    have hu : (u32Q rest 0).2.2 = 0 := by
      apply Classical.byContradiction
      intro hu
      have : (fixedP right ((u32Q rest 0).1 : Int) (u32Q rest 0).2.1 (u32Q rest 0).2.2).2.2 = (u32Q rest 0).2.2 := by unfold fixedP; rw [if_pos hu]
      rw [this] at hf
      exact hu hf
    have e1 := u32Q_inv hu
    rw [hu] at hf ⊢
    obtain ⟨e2, e3, e4⟩ := fixedP_inv hf
    refine ⟨?_, e4⟩
    unfold cnt
    rw [e3, List.append_assoc, ← e2, ← e1]
  · rename_i hf
    exact absurd h hf
theorem textsP_inv : ∀ (n : Nat) (r : List UInt8), (textsP n r 0).2.2 = 0 → r = ((textsP n r 0).1.map cnt).flatten ++ (textsP n r 0).2.1
  | 0, r, _ => by simp [textsP]
  | n + 1, r, h => by
    have hc : (countedP anyR r 0).2.2 = 0 := by
      apply Classical.byContradiction
      intro hc
      have h2 : (textsP n (countedP anyR r 0).2.1 (countedP anyR r 0).2.2).2 = ((countedP anyR r 0).2.1, (countedP anyR r 0).2.2) := by
        have : ∀ (n : Nat) (r : List UInt8) {e : Int}, e ≠ 0 → (textsP n r e).2 = (r, e) := by
          intro n
          induction n with
          | zero => intro r e _; rfl
          | succ n ih =>
            intro r e he
            rw [textsP, countedP_err anyR he]
            exact ih r he
        exact this n _ hc
      have h3 : (textsP (n + 1) r 0).2 = (textsP n (countedP anyR r 0).2.1 (countedP anyR r 0).2.2).2 := rfl
      rw [h3, h2] at h
      exact hc h
    have e1 := (countedP_inv hc).1
    have h' : (textsP n (countedP anyR r 0).2.1 0).2.2 = 0 := by
      have h3 : (textsP (n + 1) r 0).2 = (textsP n (countedP anyR r 0).2.1 (countedP anyR r 0).2.2).2 := rfl
      rw [h3, hc] at h
      exact h
    have ih := textsP_inv n _ h'
    have h4 : textsP (n + 1) r 0 = ((countedP anyR r 0).1 :: (textsP n (countedP anyR r 0).2.1 0).1, (textsP n (countedP anyR r 0).2.1 0).2) := by
      rw [textsP, hc]
    rw [h4]
    simp only [List.map_cons, List.flatten_cons, List.append_assoc]
    rw [← ih, ← e1]
theorem startsZ_plain (l : List UInt8) : startsZ (plainL l) = false := by
  induction l with
  | nil => rfl
  | cons b l ih =>
    rw [plainL_cons]
    split
    · exact ih
    · rename_i h
      simp [startsZ, h]
theorem small_bool {b : UInt8} (h : b.toNat ≤ 1) : boolL (decide (b.toNat = 1)) = [b] := by
  have : b = 0 ∨ b = 1 := by
    rcases Nat.le_one_iff_eq_zero_or_eq_one.1 h with h | h
    · exact .inl (UInt8.toNat_inj.1 (by rw [h]; rfl))
    · exact .inr (UInt8.toNat_inj.1 (by rw [h]; rfl))
  rcases this with rfl | rfl <;> decide
/-- What was read of a letter is written as it was. -/
theorem readP_write {k : UInt8} (hk : k ∈ letters8) {r : List UInt8} (h : (readP k r).1 = 0) :
    (writeP (k.toNat : Int) (readP k r).2.1).2 = 0 ∧ r = (writeP (k.toNat : Int) (readP k r).2.1).1 ++ (readP k r).2.2 := by
  simp only [letters8, List.mem_cons, List.not_mem_nil, or_false] at hk
  rcases hk with rfl | rfl | rfl | rfl | rfl | rfl | rfl | rfl
  · have he : orE (boolP r 0).2.2 0 = 0 := h
    have h0 : (fixedP boolR ((1 : Nat) : Int) r 0).2.2 = 0 := (orE_zero he).1
    obtain ⟨e1, e2, e3⟩ := fixedP_inv h0
    have hb : (boolP r 0).1 = decide ((hd0 (fixedP boolR ((1 : Nat) : Int) r 0).1).toNat = 1) := rfl
    have hr : readP 98 r = (orE (boolP r 0).2.2 0, ⟨98, cond (boolP r 0).1 1 0, [], []⟩, (boolP r 0).2.1) := rfl
    have h2 : (boolP r 0).2.1 = (fixedP boolR ((1 : Nat) : Int) r 0).2.1 := rfl
    rw [hr, hb, h2]
    generalize (fixedP boolR ((1 : Nat) : Int) r 0).1 = a at *
    match a, e2 with
    | [c], _ =>
      have hc : c.toNat ≤ 1 := of_decide_eq_true e3
      have hd : hd0 [c] = c := rfl
      rw [hd]
      have hw : writeP 98 ⟨98, cond (decide (c.toNat = 1)) 1 0, [], []⟩ = (boolL (decide (c.toNat = 1)), 0) := by
        by_cases h1 : c.toNat = 1
        · rw [decide_eq_true h1]; rfl
        · rw [decide_eq_false h1]; rfl
      have hw' : writeP (((98 : UInt8).toNat : Nat) : Int) ⟨98, cond (decide (c.toNat = 1)) 1 0, [], []⟩ = (boolL (decide (c.toNat = 1)), 0) := hw
      simp only [hw', small_bool hc]
      exact ⟨trivial, e1⟩
  · have he : orE (countedP anyR r 0).2.2 0 = 0 := h
    have e1 := (countedP_inv (orE_zero he).1).1
    have hr : readP 115 r = (orE (countedP anyR r 0).2.2 0, ⟨115, 0, (countedP anyR r 0).1, []⟩, (countedP anyR r 0).2.1) := rfl
    rw [hr]
    exact ⟨rfl, e1⟩
  · have he : orE (u32Q r 0).2.2 0 = 0 := h
    have e1 := u32Q_inv (orE_zero he).1
    have hl := u32Q_lt r 0
    have hr : readP 117 r = (orE (u32Q r 0).2.2 0, ⟨117, ((u32Q r 0).1 : Int), [], []⟩, (u32Q r 0).2.1) := rfl
    rw [hr]
    generalize u32Q r 0 = p at *
    have hw : writeP (((117 : UInt8).toNat : Nat) : Int) ⟨117, (p.1 : Int), [], []⟩ = (pack4 p.1, 0) := by
      show wrNum 117 (p.1 : Int) = _
      unfold wrNum
      rw [if_neg (by omega), if_pos ⟨rfl, by omega, by omega⟩]
      rfl
    simp only [hw]
    exact ⟨trivial, e1⟩
  · have he : orE (countedP wholeR r 0).2.2 0 = 0 := h
    obtain ⟨e1, e2⟩ := countedP_inv (orE_zero he).1
    have hr : readP 109 r = (orE (countedP wholeR r 0).2.2 0, ⟨109, 0, plainL (countedP wholeR r 0).1, []⟩, (countedP wholeR r 0).2.1) := rfl
    rw [hr]
    generalize countedP wholeR r 0 = p at *
    have hwh : wholeL p.1 = p.1 := of_decide_eq_true ((wholeR_iff _).symm.trans e2)
    have hw : writeP (((109 : UInt8).toNat : Nat) : Int) ⟨109, 0, plainL p.1, []⟩ = (cnt p.1, 0) := by
      show wrBytes 109 (plainL p.1) = _
      unfold wrBytes
      rw [if_neg (by omega), if_pos ⟨rfl, startsZ_plain _⟩, wholeL_plain, hwh]
    simp only [hw]
    exact ⟨trivial, e1⟩
  · have he : orE (countedP anyR r 0).2.2 ((splitP (countedP anyR r 0).1).2 : Int) = 0 := h
    obtain ⟨h0, h1⟩ := orE_zero he
    have e1 := (countedP_inv h0).1
    have hr : readP 110 r = (orE (countedP anyR r 0).2.2 ((splitP (countedP anyR r 0).1).2 : Int), ⟨110, 0, [], (splitP (countedP anyR r 0).1).1⟩, (countedP anyR r 0).2.1) := rfl
    rw [hr]
    generalize countedP anyR r 0 = p at *
    obtain ⟨e2, e3⟩ := join_split p.1 (by omega)
    have hw : writeP (((110 : UInt8).toNat : Nat) : Int) ⟨110, 0, [], (splitP p.1).1⟩ = (cnt p.1, 0) := by
      show wrList 110 (splitP p.1).1 = _
      unfold wrList
      rw [if_neg (by omega), if_pos e3, e2]
    simp only [hw]
    exact ⟨trivial, e1⟩
  · have he : orE (fixedP anyR ((16 : Nat) : Int) r 0).2.2 0 = 0 := h
    obtain ⟨e1, e2, _⟩ := fixedP_inv (orE_zero he).1
    have hr : readP 99 r = (orE (fixedP anyR ((16 : Nat) : Int) r 0).2.2 0, ⟨99, 0, (fixedP anyR ((16 : Nat) : Int) r 0).1, []⟩, (fixedP anyR ((16 : Nat) : Int) r 0).2.1) := rfl
    rw [hr]
    generalize fixedP anyR ((16 : Nat) : Int) r 0 = p at *
    have hw : writeP (((99 : UInt8).toNat : Nat) : Int) ⟨99, 0, p.1, []⟩ = (p.1, 0) := by
      show wrBytes 99 p.1 = _
      unfold wrBytes
      rw [if_neg (by omega), if_neg (fun h => by omega), if_pos ⟨rfl, e2⟩]
    simp only [hw]
    exact ⟨trivial, e1⟩
  · have he : orE (countedP anyR r 0).2.2 0 = 0 := h
    have e1 := (countedP_inv (orE_zero he).1).1
    have hr : readP 116 r = (orE (countedP anyR r 0).2.2 0, ⟨116, 0, (countedP anyR r 0).1, []⟩, (countedP anyR r 0).2.1) := rfl
    rw [hr]
    exact ⟨rfl, e1⟩
  · have he : orE (extsQ r).2.2.2 (extsQ r).1 = 0 := h
    obtain ⟨h0, h1⟩ := orE_zero he
    have hr : readP 101 r = (orE (extsQ r).2.2.2 (extsQ r).1, ⟨101, 0, [], (extsQ r).2.1⟩, (extsQ r).2.2.1) := rfl
    rw [hr]
    have hu := u32Q_lt r 0
    have hx : extsQ r = if 8 < (u32Q r 0).1 then (2, [], (u32Q r 0).2) else (0, textsP (2 * (u32Q r 0).1) (u32Q r 0).2.1 (u32Q r 0).2.2) := rfl
    by_cases h8 : 8 < (u32Q r 0).1
    · rw [hx, if_pos h8] at h1
      exact absurd h1 (by show (2 : Int) ≠ 0; omega)
    · rw [if_neg h8] at hx
      rw [hx] at h0 ⊢
      have hue : (u32Q r 0).2.2 = 0 := by
        apply Classical.byContradiction
        intro hue
        have : ∀ (n : Nat) (r : List UInt8) {e : Int}, e ≠ 0 → (textsP n r e).2 = (r, e) := by
          intro n
          induction n with
          | zero => intro r e _; rfl
          | succ n ih =>
            intro r e he
            rw [textsP, countedP_err anyR he]
            exact ih r he
        have h2 := this (2 * (u32Q r 0).1) (u32Q r 0).2.1 hue
        have h3 : (textsP (2 * (u32Q r 0).1) (u32Q r 0).2.1 (u32Q r 0).2.2).2.2 = 0 := h0
        rw [h2] at h3
        exact hue h3
      have e1 := u32Q_inv hue
      rw [hue] at h0 ⊢
      have e2 := textsP_inv _ _ h0
      have hlen := textsP_len (2 * (u32Q r 0).1) (u32Q r 0).2.1 0
      generalize u32Q r 0 = p at *
      generalize textsP (2 * p.1) p.2.1 0 = q at *
      have hw : writeP (((101 : UInt8).toNat : Nat) : Int) ⟨101, 0, [], q.1⟩ = (pack4 p.1 ++ (q.1.map cnt).flatten, 0) := by
        show wrList 101 q.1 = _
        unfold wrList extsP
        rw [if_pos rfl, if_neg (by omega), if_neg (by omega), hlen, show 2 * p.1 / 2 = p.1 by omega]
      simp only [hw]
      exact ⟨trivial, by rw [List.append_assoc, ← e2, ← e1]⟩
end Go.Proofs.YtlalkpgipenkaaaGreatDoor

namespace Go.Proofs.YtlalkpgipenkaaaGreatDoor
open Go.RowKit

theorem encK_cons (k : UInt8) (F : List UInt8) (x : FieldR) (fs : List FieldR) : ∀ n, encK (k :: F) (x :: fs) (n + 1) = (writeP (k.toNat : Int) x).1 ++ encK F fs n
  | 0 => by simp [encK]
  | n + 1 => by
    rw [encK, encK_cons k F x fs n, encK, List.append_assoc]
    simp
theorem readsP_enc : ∀ (F r : List UInt8), (∀ k ∈ F, k ∈ letters8) → (readsP F r).2.1 = 0 →
    r = encK F (readsP F r).2.2.1 F.length ++ (readsP F r).2.2.2 ∧ ∀ k, k < F.length → (writeP ((F.getD k 0).toNat : Int) ((readsP F r).2.2.1.getD k zeroF)).2 = 0
  | [], r, _, _ => ⟨by simp [encK, readsP], fun k hk => by simp at hk⟩
  | k :: F, r, hl, h => by
    by_cases h0 : (readP k r).1 = 0
    · rw [readsP_ok h0] at h ⊢
      obtain ⟨hw1, hw2⟩ := readP_write (hl k (by simp)) h0
      obtain ⟨e1, e2⟩ := readsP_enc F (readP k r).2.2 (fun x hx => hl x (by simp [hx])) h
      refine ⟨?_, fun j hj => ?_⟩
      · rw [List.length_cons, encK_cons, List.append_assoc]
        show r = _ ++ (encK F (readsP F (readP k r).2.2).2.2.1 F.length ++ (readsP F (readP k r).2.2).2.2.2)
        rw [← e1, ← hw2]
      · cases j with
        | zero => simpa using hw1
        | succ j => simpa using e2 j (by simpa using hj)
    · rw [readsP_no h0] at h
      exact absurd h h0
theorem readsP_sm : ∀ (F r : List UInt8) (m : Nat), r.length ≤ m → ∀ x ∈ (readsP F r).2.2.1, FieldSm m x
  | [], r, m, _, x, hx => by simp [readsP] at hx
  | k :: F, r, m, hr, x, hx => by
    by_cases h0 : (readP k r).1 = 0
    · rw [readsP_ok h0] at hx
      rcases List.mem_cons.1 hx with rfl | hx
      · exact (readP_in k r).mono hr
      · exact readsP_sm F _ m (Nat.le_trans (readP_rest k r) hr) x hx
    · rw [readsP_no h0] at hx
      simp at hx
theorem fitsF_parts {f : ByteArray} {s : List UInt8} (h : fitsF f s = true) : (readsP (lettersOf f) s).2.1 = 0 ∧ (readsP (lettersOf f) s).2.2.2 = [] := by
  unfold fitsF at h
  simp only [Bool.and_eq_true, decide_eq_true_eq] at h
  refine ⟨h.1, ?_⟩
  have h2 := h.2
  unfold endP at h2
  rw [if_neg (by simp)] at h2
  split at h2
  · assumption
  · simp at h2
end Go.Proofs.YtlalkpgipenkaaaGreatDoor

namespace Go.Proofs.YtlalkpgipenkaaaGreatDoor
open Go.RowKit

set_option maxRecDepth 100000 in
theorem decode_empty (w : World) : Calls Tryz.prog 31 #[.string ⟨#[]⟩] w fun r w' => ∃ t u, r = .returned (.tuple #[zeroM, .iface t u]) ∧ ErrAt w' (.iface t u) [messageS] (some 4) ∧ Below w.heap.size w w' := by
  have HO : Hid (∀ W, Calls Tryz.prog 80 #[.string messageS, .int .i64 4] W fun r w' => ∃ t u, r = .returned (.iface t u) ∧ ErrAt w' (.iface t u) [messageS] (some 4) ∧ Below W.heap.size W w') := fun W =>
    (fOf_any messageS 4 (by decide) W).mono fun r w' ⟨v', h1, h2, h3, h4⟩ => by
      cases h2
      exact ⟨_, _, h1, .fault ‹_› ‹_› ‹_› ‹_›, h4⟩
  unfold messageS zeroM at *
  have HB := Lib.hid ((Below.refl w.heap.size w).alloc (Nat.le_refl _) (.cells #[.int .i64 0, .slice none 0 0] 72))
  go_enter Tryz.func31, Tryz.ntmps31
  go_wp2_with fail
  go_at_call 80
  refine (HO.out _).mono ?_
  rintro r w1 ⟨t, u, rfl, he, b1⟩
  have hM1 := (Holds.new w 72 #[.int .i64 0, .slice none 0 0]).moves (Moves.ofBelow (S := nobody) b1) (fun h => h)
  have c0 := hM1.cell 0
  have c1 := hM1.cell 1
  have s0 := hM1.frozen 0
  have s1 := hM1.frozen 1
  go_wp2_with fail
  have hF := Holds.set (Holds.set hM1 0 (.int .i64 0)) 1 (.slice none 0 0)
  have mf : Moves (fun i => i = w.heap.size) w1 _ := ((Moves.refl (fun i => i = w.heap.size) w1).setCell (p := ⟨w.heap.size, 0, none⟩) (.inl rfl) (.int .i64 0)).setCell (p := ⟨w.heap.size, 1, none⟩) (.inl rfl) (.slice none 0 0)
  have hb1 := HB.out.trans (b1.mono HB.out.size)
  refine bodyPost_ret (results_row_tmp (p := 2) (u := 3) rfl _ _ w.heap.size _ _ (0, 0) _ rfl hF Tryz.underlying72 rfl (by kernel_rfl)) rfl ⟨_, _, rfl, he.set hM1 (fun x h => by cases h) mf, hb1.trans (mf.below hb1.size fun i h => Nat.le_of_eq h.symm)⟩
end Go.Proofs.YtlalkpgipenkaaaGreatDoor

namespace Go.Proofs.YtlalkpgipenkaaaGreatDoor
open Go.RowKit

theorem value_any {x : FieldR} {w : World} {v : Value} (hv : TextsAt w v (x.l.map bs)) (hcap : Roomy v x.l.length) (ho : FieldOk x) :
    Calls Tryz.prog 86 #[fieldV x v] w fun e w' => e = .returned (.tuple #[.string (bs (valueP x).1), .bool (valueP x).2]) ∧ Below w.heap.size w w' := by
  have HW := Lib.hid (fun (W : World) (hb : Below w.heap.size w W) => write_any (x.kind.toNat : Int) (hv.below hb) hcap ho)
  unfold valueP
  obtain ⟨ao, cap, rfl, _⟩ := hv
  have hq : (((writeP (x.kind.toNat : Int) x).2 : Int) == 0) = decide ((writeP (x.kind.toNat : Int) x).2 = 0) := by by_cases h : (writeP (x.kind.toNat : Int) x).2 = 0 <;> simp [h]
  generalize writeP (x.kind.toNat : Int) x = p at *
  obtain ⟨s, n⟩ := p
  obtain ⟨kd, xn, xs, xl⟩ := x
  have hkd : (kd.toNat : Int) < 256 := by have := kd.toNat_lt; omega
  have hw32 : IntKind.i32.wrap (kd.toNat : Int) = (kd.toNat : Int) := IntWalk.i32_in _ (by omega)
  unfold wroteV fieldV at *
  simp only at *
  have HF := Lib.hid ((Below.refl w.heap.size w).alloc (Nat.le_refl _) (.cells #[.int .u8 (kd.toNat : Int), .int .i64 xn, .string (bs xs), .slice ao (xl.map bs).length cap] 81))
  clear hcap ho
  generalize bs s = S at *
  generalize bs xs = S2 at *
  generalize (xl.map bs).length = m at *
  generalize kd.toNat = kn at *
  generalize decide (n = 0) = b at *
  go_enter Tryz.func86, Tryz.ntmps86
  go_wp2_with (go_at_call 130; with_reducible refine (HW.out _ HF.out).mono ?_; rintro e w1 ⟨rfl, b1⟩)
  go_ret2
  exact ⟨rfl, HF.out.trans (b1.mono HF.out.size)⟩
end Go.Proofs.YtlalkpgipenkaaaGreatDoor

namespace Go.Proofs.YtlalkpgipenkaaaGreatDoor
open Go.RowKit

/-- The message that a payload is, if it is one: its number, its format, what follows the number. -/
def msgP : List UInt8 → Option (UInt8 × ByteArray × List UInt8)
  | [] => none
  | b :: s => if 32767 < s.length then none else ((formsP (b.toNat : Int)).find? (fun f => fitsF f s)).map fun f => (b, f, s)
theorem msgP_mk {b : UInt8} {s : List UInt8} {f : ByteArray} (hs : s.length ≤ 32767) (h : (formsP (b.toNat : Int)).find? (fun f => fitsF f s) = some f) : msgP (b :: s) = some (b, f, s) := by
  show (if _ then _ else _) = _
  rw [if_neg (by omega), h]; rfl
theorem msgP_no {b : UInt8} {s : List UInt8} (h : (formsP (b.toNat : Int)).find? (fun f => fitsF f s) = none) : msgP (b :: s) = none := by
  show (if _ then _ else _) = _
  rw [h]; split <;> rfl

/-- A field's bytes on the wire, the text of its term. -/
def fieldT (x : FieldR) : List UInt8 := if x.kind = 116 then ofL x.s else refDataL (valueP x).1
def termP (p : List UInt8) : List UInt8 := match msgP p with
  | none => refDataL p
  | some (b, f, s) => refListL (refDataL [b] :: (fieldsF f s).map fieldT)

/-- What there is to know of a message's fields. -/
structure Parts (b : UInt8) (f : ByteArray) (s : List UInt8) : Prop where
  mem : f ∈ formsP (b.toNat : Int)
  len : (fieldsF f s).length = (lettersOf f).length
  few : (lettersOf f).length ≤ 13
  size : f.size = (lettersOf f).length
  letters : ∀ k ∈ lettersOf f, k ∈ letters8
  fit : fitP (formsP (b.toNat : Int)) ((lettersOf f).length : Int) = (f, true)
  text : s = encK (lettersOf f) (fieldsF f s) (lettersOf f).length
  kind : ∀ k, k < (lettersOf f).length → ((fieldsF f s).getD k zeroF).kind = (lettersOf f).getD k 0
  right : ∀ k, k < (lettersOf f).length → (writeP (((lettersOf f).getD k 0).toNat : Int) ((fieldsF f s).getD k zeroF)).2 = 0
  small : ∀ x ∈ fieldsF f s, FieldSm s.length x

theorem readP_kind {k : UInt8} (hk : k ∈ letters8) (r : List UInt8) : (readP k r).2.1.kind = k := by
  simp only [letters8, List.mem_cons, List.not_mem_nil, or_false] at hk
  rcases hk with rfl | rfl | rfl | rfl | rfl | rfl | rfl | rfl <;> rfl
theorem readsP_kind : ∀ (F r : List UInt8), (∀ k ∈ F, k ∈ letters8) → (readsP F r).2.1 = 0 → ∀ k, k < F.length → ((readsP F r).2.2.1.getD k zeroF).kind = F.getD k 0
  | [], _, _, _, k, hk => by simp at hk
  | c :: F, r, hl, h, k, hk => by
    by_cases h0 : (readP c r).1 = 0
    · rw [readsP_ok h0] at h ⊢
      cases k with
      | zero => simpa using readP_kind (hl c (by simp)) r
      | succ k => simpa using readsP_kind F _ (fun x hx => hl x (by simp [hx])) h k (by simpa using hk)
    · rw [readsP_no h0] at h
      exact absurd h h0
theorem msgP_parts {p : List UInt8} {b : UInt8} {f : ByteArray} {s : List UInt8} (h : msgP p = some (b, f, s)) : p = b :: s ∧ s.length ≤ 32767 ∧ fitsF f s = true ∧ Parts b f s := by
  cases p with
  | nil => cases h
  | cons c r =>
    have h' : (if 32767 < r.length then none else ((formsP (c.toNat : Int)).find? (fun f => fitsF f r)).map fun f => (c, f, r)) = some (b, f, s) := h
    by_cases hr : 32767 < r.length
    · rw [if_pos hr] at h'; cases h'
    · rw [if_neg hr] at h'
      cases hf : (formsP (c.toNat : Int)).find? (fun f => fitsF f r) with
      | none => rw [hf] at h'; cases h'
      | some g =>
        rw [hf] at h'
        simp only [Option.map_some, Option.some.injEq, Prod.mk.injEq] at h'
        obtain ⟨rfl, rfl, rfl⟩ := h'
        have hmem := List.mem_of_find?_eq_some hf
        have hfit : fitsF g r = true := by simpa using List.find?_some hf
        obtain ⟨h1, h2⟩ := fitsF_parts hfit
        have hl := forms_letters hmem
        obtain ⟨e1, e2⟩ := readsP_enc (lettersOf g) r hl.2 h1
        have hc := readsP_count (lettersOf g) r h1
        rw [h2, List.append_nil] at e1
        have hfs : g.size = (lettersOf g).length := by
          have := bs_size (lettersOf g)
          rwa [bs_letters] at this
        have hfitp : fitP (formsP (c.toNat : Int)) ((lettersOf g).length : Int) = (g, true) := by
          obtain ⟨i, hi, hfi⟩ := List.mem_iff_getElem.1 hmem
          have := fitP_self (formsP_apart (c.toNat : Int)) hi
          rw [hfi] at this
          rw [← hfs]
          exact this
        exact ⟨rfl, by omega, hfit, hmem, hc.2, hl.1, hfs, hl.2, hfitp, e1, readsP_kind _ _ hl.2 h1, e2, readsP_sm _ _ _ (Nat.le_refl _)⟩
theorem FieldSm.ok {m : Nat} {x : FieldR} (h : FieldSm m x) (hm : m ≤ 32767) : FieldOk x :=
  ⟨by have := h.n; omega, by have := h.s; omega, by have := h.l; omega, fun y hy => by have := h.ls y hy; omega⟩

/-- What Decode leaves. -/
def GdPost (p : List UInt8) (w : World) (r : Ending) (w' : World) : Prop :=
  Below w.heap.size w w' ∧ ((∃ b f s v, msgP p = some (b, f, s) ∧ r = .returned (.tuple #[msgV (b.toNat : Int) v, .nilIface]) ∧ FieldsKept w' v (fieldsF f s) w.heap.size) ∨ (msgP p = none ∧ ∃ t u, r = .returned (.tuple #[zeroM, .iface t u])))
theorem gdec_any {w : World} (p : List UInt8) (hp : p.length ≤ 1000000000) (hT : TabAt w) (hV : VarAt w) : Calls Tryz.prog 31 #[.string (bs p)] w (GdPost p w) := by
  cases p with
  | nil => exact (decode_empty w).mono fun r w' ⟨t, u, h1, _, h3⟩ => ⟨h3, .inr ⟨rfl, t, u, h1⟩⟩
  | cons b s =>
    rw [List.length_cons] at hp
    by_cases hl : 32767 < s.length
    · refine (decode_long (w := w) (s := bs (b :: s)) (by rw [bs_size, List.length_cons]; omega) (by rw [bs_size, List.length_cons]; omega)).mono fun r w' ⟨t, u, h1, _, h3⟩ => ⟨h3, .inr ⟨?_, t, u, h1⟩⟩
      show (if _ then _ else _) = _
      rw [if_pos hl]
    · by_cases hk : formsP (b.toNat : Int) = []
      · refine (decode_none (w := w) (s := bs (b :: s)) (b := b) (by rw [bs_size, List.length_cons]; omega) (by simp [bs]) hk).mono fun r w' ⟨t, u, h1, _, h3⟩ => ⟨h3, .inr ⟨msgP_no (by rw [hk]; rfl), t, u, h1⟩⟩
      · refine (decode_some (w := w) (s := s) (by omega) hk hT hV).mono fun r w' ⟨hb, hc⟩ => ⟨hb, ?_⟩
        rcases hc with ⟨f, v, h1, h2, h3⟩ | ⟨h1, t, u, h2, _⟩
        · exact .inl ⟨b, f, s, v, msgP_mk (by omega) h1, h2, h3⟩
        · exact .inr ⟨msgP_no h1, t, u, h2⟩
end Go.Proofs.YtlalkpgipenkaaaGreatDoor

namespace Go.Proofs.YtlalkpgipenkaaaGreatDoor
open Go.RowKit

theorem value_len {x : FieldR} {m : Nat} (h : FieldSm m x) (hm : m ≤ 32767) : (valueP x).1.length ≤ 600000 := by
  have hs := h.s
  have hl := h.l
  have hp4 : ∀ n, (pack4 n).length = 4 := fun n => rfl
  have hcnt : ∀ l : List UInt8, (cnt l).length = 4 + l.length := fun l => by unfold cnt; rw [List.length_append, hp4]
  have hls : ∀ y ∈ x.l, y.length ≤ 32831 := fun y hy => by have := h.ls y hy; omega
  have h1 : (wrNum x.kind.toNat x.n).1.length ≤ 600000 := by
    unfold wrNum
    split
    · cases decide (x.n = 1) <;> simp [boolL]
    · split
      · simp [hp4]
      · simp
  have h2 : (wrBytes x.kind.toNat x.s).1.length ≤ 600000 := by
    unfold wrBytes
    split
    · rw [hcnt]; omega
    · split
      · have h3 := plainL_le x.s
        have h4 : (wholeL x.s).length ≤ x.s.length + 1 := by
          unfold wholeL
          split
          · simp only [List.length_cons]; omega
          · omega
        simp only [hcnt]; omega
      · split
        · simp only; omega
        · simp
  have h3 : (wrList x.kind.toNat x.l).1.length ≤ 600000 := by
    have h4 := joinL_le 32831 x.l hls
    have h5 := cnts_len 32831 x.l hls
    have h6 : x.l.length * (32831 + 1) ≤ 16 * (32831 + 1) := Nat.mul_le_mul_right _ hl
    have h7 : x.l.length * (32831 + 4) ≤ 16 * (32831 + 4) := Nat.mul_le_mul_right _ hl
    unfold wrList
    split
    · unfold extsP
      split
      · simp
      · split
        · simp
        · simp only [List.length_append, hp4]; omega
    · split
      · simp only [hcnt]; omega
      · simp
  show (writeP x.kind.toNat x).1.length ≤ _
  unfold writeP
  split
  · simp
  · split
    · exact h1
    · split
      · exact h2
      · split
        · exact h3
        · simp

set_option maxHeartbeats 1000000 in
set_option maxRecDepth 100000 in
theorem pField_any {B A : Nat} {L : List Ent} {F : Nat → Prop} {w : World} (ha : ArenaAt B A L F w) (hG : Good L) {x : FieldR} {v : Value} (hv : TextsAt w v (x.l.map bs)) (hcap : Roomy v x.l.length) (hx : FieldSm 32767 x) (hl : L.length ≤ 900000000) :
    Calls Tryz.prog 34 #[.pointer (some ⟨A, 0, none⟩), .int .i32 (x.kind.toNat : Int), fieldV x v] w fun e w' => ∃ m, e = .returned (.int .i64 m.1) ∧ Grown L m (fieldT x) 330000 ∧ Left B A m.2 F w w' := by
  have hs := hx.s
  have hkl := UInt8.toNat_lt x.kind
  have HO := Lib.hid (fun (W : World) (hb : Below w.heap.size w W) => fdOf_any (ha.below hb) hG x.s (by omega) (by omega))
  have HV := Lib.hid (fun (W : World) (hb : Below w.heap.size w W) => value_any (hv.below hb) hcap (hx.ok (Nat.le_refl _)))
  have hvl := value_len hx (Nat.le_refl _)
  have HD := Lib.hid (fun (W : World) (hb : Below w.heap.size w W) => Data_any (ha.below hb) (by omega) (bs (valueP x).1) (by rw [bs_size]; omega))
  have HL : Hid (∀ (W W' : World) (L' : List Ent), Below w.heap.size w W → Left B A L' F W W' → Left B A L' F w W') := fun W W' L' hb h => Left.after (Moves.ofBelow hb) h
  have HS := Lib.hid ((data_same hG (by omega) (valueP x).1).grown.mono (show 1 ≤ 330000 by omega))
  have hE : fieldT x = if x.kind = 116 then ofL x.s else refDataL (valueP x).1 := rfl
  obtain ⟨ao, cap, rfl, _⟩ := hv
  clear hvl
  by_cases hk : x.kind = 116
  · rw [if_pos hk] at hE
    have HE := Lib.hid hE
    have hk' : (x.kind.toNat : Int) = 116 := by rw [hk]; rfl
    unfold fieldV
    rw [hk']
    have HBx := Lib.hid ((Below.refl w.heap.size w).alloc (Nat.le_refl _) (.cells #[.int .u8 116, .int .i64 x.n, .string (bs x.s), .slice ao (x.l.map bs).length cap] 81))
    clear hE hk hk' HV HD HS
    generalize bs x.s = S at *
    generalize (x.l.map bs).length = ml at *
    go_enter Tryz.func34, Tryz.ntmps34
    go_wp2_with (first
      | (go_at_call 41; refine (HO.out _ HBx.out).mono ?_; rintro e w1 ⟨m, rfl, hg, k1⟩))
    go_ret
    exact ⟨m, rfl, by rw [HE.out]; exact hg.mono (by omega), HL.out _ _ _ HBx.out k1⟩
  · rw [if_neg hk] at hE
    have HE := Lib.hid hE
    have hk' : ((x.kind.toNat : Int) == 116) = false := by
      rw [beq_eq_false_iff_ne]
      intro e
      exact hk (UInt8.toNat_inj.1 (by show x.kind.toNat = 116; omega))
    unfold fieldV at *
    have HBx := Lib.hid ((Below.refl w.heap.size w).alloc (Nat.le_refl _) (.cells #[.int .u8 (x.kind.toNat : Int), .int .i64 x.n, .string (bs x.s), .slice ao (x.l.map bs).length cap] 81))
    clear hE hk HO
    generalize bs (valueP x).1 = V at *
    generalize (valueP x).2 = V2 at *
    generalize bs x.s = S at *
    generalize (x.l.map bs).length = ml at *
    generalize x.kind.toNat = kn at *
    go_enter Tryz.func34, Tryz.ntmps34
    go_wp2_with (first
      | (go_at_call 86; refine (HV.out _ HBx.out).mono ?_; rintro e w1 ⟨rfl, b1⟩; have hB1 := HBx.out.trans (b1.mono HBx.out.size))
      | (go_at_call 15; refine (HD.out _ hB1).mono ?_; rintro e w2 ⟨rfl, k2⟩))
    go_ret
    exact ⟨_, rfl, by rw [HE.out]; exact HS.out, HL.out _ _ _ hB1 k2⟩
end Go.Proofs.YtlalkpgipenkaaaGreatDoor
