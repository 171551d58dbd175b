/- Part 30 of what the statement wants. -/
import Derived.Laws.Rows
import Derived.IntWalk
import Derived.Test.YtlalkpgipenkaaaGreatDoorPk02
import Derived.Test.YtlalkpgipenkaaaGreatDoorPk27
import Derived.Test.YtlalkpgipenkaaaGreatDoorPk29
namespace Go.Proofs.YtlalkpgipenkaaaGreatDoor
open Go.RowKit

theorem known7_any (w : World) (n : Int) : Calls Tryz.prog 81 #[.int .i64 n] w fun e w' => e = .returned (.bool (decide ((formsP n).length > 0))) ∧ Below w.heap.size w w' := by
  have hF : Calls Tryz.prog 82 #[.int .i64 n] w fun e w' => ∃ ao cap, e = .returned (.slice ao (formsP n).length cap) ∧ Below w.heap.size w w' :=
    (forms_any w n).mono fun e w' ⟨v, he, ⟨ao, cap, hv, hc⟩, hb⟩ => ⟨ao, cap, by rw [he, hv], hb⟩
  generalize formsP n = l at *
  go_enter Tryz.func81, Tryz.ntmps81
  go_wp2_with (go_at_call 82; with_reducible refine hF.mono ?_; rintro e w1 ⟨ao, cap, rfl, hbel⟩)
  go_ret
  exact ⟨by simp, hbel⟩
theorem results_row_tmp {P : Program} {fn : Func} {p u : Tmp} {ty : TypeId} (h : fn.results = #[.cell p ty, .tmp u]) (tmps : Array Value) (w : World) (g : Nat) (t : TypeId) (cs : Array Value) (fr : Nat × Nat) (d : TypeDesc)
    (hp : tmps.getD p undef = .pointer (some ⟨g, 0, none⟩)) (hg : w.heap[g]? = some (.cells cs t fr))
    (hu : P.underlying ty = some d) (hd : (match d with | .struct _ | .array _ _ => true | _ => false) = true) (hi : (P.info? ty).map (·.size) = some cs.size) :
    (results fn tmps).run P w = .ok (.tuple #[.agg cs, tmps.getD u undef]) w := by
  have hp' : tmps[p]?.getD undef = .pointer (some ⟨g, 0, none⟩) := by simpa using hp
  simp [results, h, hp', asAddr, run_loadVar_row w g t ty cs fr d hg hu hd hi]

/-- 'message' -/
def messageS : ByteArray := ⟨#[109, 101, 115, 115, 97, 103, 101]⟩
def zeroM : Value := .agg #[.int .i64 0, .slice none 0 0]

set_option maxRecDepth 100000 in
theorem decode_long {w : World} {s : ByteArray} (hs : 32768 < s.size) (hm : s.size ≤ 9223372036854775807) :
    Calls Tryz.prog 31 #[.string s] w fun r w' => ∃ t u, r = .returned (.tuple #[zeroM, .iface t u]) ∧ ErrAt w' (.iface t u) [messageS] (some 2) ∧ Below w.heap.size w w' := by
  have HO : Hid (∀ W, Calls Tryz.prog 80 #[.string messageS, .int .i64 2] W fun r w' => ∃ t u, r = .returned (.iface t u) ∧ ErrAt w' (.iface t u) [messageS] (some 2) ∧ Below W.heap.size W w') := fun W =>
    (fOf_any messageS 2 (by decide) W).mono fun r w' ⟨v', h1, h2, h3, h4⟩ => by
      cases h2
      exact ⟨_, _, h1, .fault ‹_› ‹_› ‹_› ‹_›, h4⟩
  unfold messageS zeroM at *
  have q1 : (s.size : Int) > 32768 := by omega
  have q2 : (s.toList == ([] : List UInt8)) = false := by
    rw [ba_toList]
    cases h : s.data.toList with
    | nil =>
      have h1 := congrArg List.length h
      have h2 : s.size = s.data.size := rfl
      simp only [Array.length_toList, List.length_nil] at h1
      omega
    | cons _ _ => rfl
  have HB := Lib.hid ((Below.refl w.heap.size w).alloc (Nat.le_refl _) (.cells #[.int .i64 0, .slice none 0 0] 72))
  clear hs hm
  go_enter Tryz.func31, Tryz.ntmps31
  go_wp2_with fail
  go_at_call 80
  refine (HO.out _).mono ?_
  rintro r w1 ⟨t, u, rfl, he, b1⟩
  have hM1 := (Holds.new w 72 #[.int .i64 0, .slice none 0 0]).moves (Moves.ofBelow (S := nobody) b1) (fun h => h)
  have c0 := hM1.cell 0
  have c1 := hM1.cell 1
  have s0 := hM1.frozen 0
  have s1 := hM1.frozen 1
  go_wp2_with fail
  have hF := Holds.set (Holds.set hM1 0 (.int .i64 0)) 1 (.slice none 0 0)
  have mf : Moves (fun i => i = w.heap.size) w1 _ := ((Moves.refl (fun i => i = w.heap.size) w1).setCell (p := ⟨w.heap.size, 0, none⟩) (.inl rfl) (.int .i64 0)).setCell (p := ⟨w.heap.size, 1, none⟩) (.inl rfl) (.slice none 0 0)
  cases he with
  | @fault b _ v0 _ _ hb0 hc0 hc1 hv0 =>
    have hne : b ≠ w.heap.size := by
      rintro rfl
      rw [c0] at hc0
      cases hc0
    refine bodyPost_ret (results_row_tmp (p := 2) (u := 3) rfl _ _ w.heap.size _ _ (0, 0) _ rfl hF Tryz.underlying72 rfl (by kernel_rfl)) rfl ⟨_, _, rfl, ?_, (HB.out.trans (b1.mono HB.out.size)).trans (mf.below (by have := (HB.out.trans (b1.mono HB.out.size)).size; omega) (fun i h => by omega))⟩
    cases hv0
    exact .fault (Nat.lt_of_lt_of_le hb0 mf.size) ((mf.cell (p := ⟨b, 0, none⟩) hb0 hne).trans hc0) ((mf.cell (p := ⟨b, 1, none⟩) hb0 hne).trans hc1) (.num 2)

set_option maxRecDepth 100000 in
theorem decode_none {w : World} {s : ByteArray} {b : UInt8} (hs : s.size ≤ 32768) (h0 : s.data[0]? = some b) (hk : formsP (b.toNat : Int) = []) :
    Calls Tryz.prog 31 #[.string s] w fun r w' => ∃ t u, r = .returned (.tuple #[zeroM, .iface t u]) ∧ ErrAt w' (.iface t u) [messageS] (some 6) ∧ Below w.heap.size w w' := by
  have HO : Hid (∀ W, Calls Tryz.prog 80 #[.string messageS, .int .i64 6] W fun r w' => ∃ t u, r = .returned (.iface t u) ∧ ErrAt w' (.iface t u) [messageS] (some 6) ∧ Below W.heap.size W w') := fun W =>
    (fOf_any messageS 6 (by decide) W).mono fun r w' ⟨v', h1, h2, h3, h4⟩ => by
      cases h2
      exact ⟨_, _, h1, .fault ‹_› ‹_› ‹_› ‹_›, h4⟩
  have hlt : 0 < s.size := by
    obtain ⟨h, _⟩ := Array.getElem?_eq_some_iff.1 h0
    exact h
  have hw : wrap64 ((s[0]'hlt).toNat : Int) = (b.toNat : Int) := by
    obtain ⟨h, h2⟩ := Array.getElem?_eq_some_iff.1 h0
    have h3 : s[0]'hlt = b := h2
    rw [h3]
    have := UInt8.toNat_lt b
    unfold wrap64
    omega
  have HK : Hid (∀ W, Calls Tryz.prog 81 #[.int .i64 (wrap64 ((s[0]'hlt).toNat : Int))] W fun e w' => e = .returned (.bool false) ∧ Below W.heap.size W w') := fun W => by
    have := known7_any W (b.toNat : Int)
    rw [hk] at this
    rw [hw]
    exact this
  unfold messageS zeroM at *
  clear hw
  have q1 : ¬ (s.size : Int) > 32768 := by omega
  have q2 : (s.toList == ([] : List UInt8)) = false := by
    rw [ba_toList]
    cases h : s.data.toList with
    | nil =>
      have h1 := congrArg List.length h
      have h2 : s.size = s.data.size := rfl
      simp only [Array.length_toList, List.length_nil] at h1
      omega
    | cons _ _ => rfl
  have q3 : (0 : Int) < (s.size : Int) := by omega
  have HB := Lib.hid ((Below.refl w.heap.size w).alloc (Nat.le_refl _) (.cells #[.int .i64 0, .slice none 0 0] 72))
  go_enter Tryz.func31, Tryz.ntmps31
  go_wp2_with (first
    | (go_at_call 81; with_reducible refine (HK.out _).mono ?_; rintro r w1 ⟨rfl, b1⟩)
    | (go_at_call 80; with_reducible refine (HO.out _).mono ?_; rintro r w2 ⟨t, u, rfl, he, b2⟩; have hM1 := (((Holds.new w 72 #[.int .i64 0, .slice none 0 0]).moves (Moves.ofBelow (S := nobody) b1) (fun h => h))).moves (Moves.ofBelow (S := nobody) b2) (fun h => h); have c0 := hM1.cell 0; have c1 := hM1.cell 1; have s0 := hM1.frozen 0; have s1 := hM1.frozen 1))
  have hF := Holds.set (Holds.set hM1 0 (.int .i64 0)) 1 (.slice none 0 0)
  have mf : Moves (fun i => i = w.heap.size) w2 _ := ((Moves.refl (fun i => i = w.heap.size) w2).setCell (p := ⟨w.heap.size, 0, none⟩) (.inl rfl) (.int .i64 0)).setCell (p := ⟨w.heap.size, 1, none⟩) (.inl rfl) (.slice none 0 0)
  cases he with
  | @fault b _ v0 _ _ hb0 hc0 hc1 hv0 =>
    have hne : b ≠ w.heap.size := by
      rintro rfl
      rw [c0] at hc0
      cases hc0
    refine bodyPost_ret (results_row_tmp (p := 2) (u := 3) rfl _ _ w.heap.size _ _ (0, 0) _ rfl hF Tryz.underlying72 rfl (by kernel_rfl)) rfl ⟨_, _, rfl, ?_, ((HB.out.trans (b1.mono HB.out.size)).trans (b2.mono (HB.out.trans (b1.mono HB.out.size)).size)).trans (mf.below (by have := ((HB.out.trans (b1.mono HB.out.size)).trans (b2.mono (HB.out.trans (b1.mono HB.out.size)).size)).size; omega) (fun i h => by omega))⟩
    cases hv0
    exact .fault (Nat.lt_of_lt_of_le hb0 mf.size) ((mf.cell (p := ⟨b, 0, none⟩) hb0 hne).trans hc0) ((mf.cell (p := ⟨b, 1, none⟩) hb0 hne).trans hc1) (.num 6)
end Go.Proofs.YtlalkpgipenkaaaGreatDoor

namespace Go.Proofs.YtlalkpgipenkaaaGreatDoor
open Go.RowKit

theorem ErrAt.set {w w' : World} {D : Nat} {a c : Value} {v : Value} {path : List ByteArray} {n : Option Int} (h : ErrAt w v path n) (hD : Holds w D 72 #[a, c]) (ha : ∀ x, a ≠ .string x) (m : Moves (fun i => i = D) w w') : ErrAt w' v path n := by
  induction h with
  | none => exact .none
  | num e => exact .num e
  | @fault b x v path n h1 h2 h3 _ ih =>
    have hne : b ≠ D := by
      rintro rfl
      have := hD.cell 0
      rw [h2] at this
      simp at this
      exact ha x this.symm
    exact .fault (Nat.lt_of_lt_of_le h1 m.size) ((m.cell (p := ⟨b, 0, Option.none⟩) h1 hne).trans h2) ((m.cell (p := ⟨b, 1, Option.none⟩) h1 hne).trans h3) ih
theorem FieldsAt.set {w w' : World} {D : Nat} {a c : Value} {v : Value} {fs : List FieldR} (h : FieldsAt w v fs) (hD : Holds w D 72 #[a, c]) (ha : ∀ x, a ≠ .string x) (hc : ∀ x, c ≠ .string x) (m : Moves (fun i => i = D) w w') : FieldsAt w' v fs := by
  have hstr : ∀ b off x, w.cell? ⟨b, off, none⟩ = some (.string x) → b ≠ D := fun b off x hx => by
    rintro rfl
    have := hD.cell off
    rw [hx] at this
    match off with
    | 0 => simp at this; exact ha x this.symm
    | 1 => simp at this; exact hc x this.symm
    | off + 2 => simp at this
  obtain ⟨ao, cap, h0, h1, h2, h3, h4⟩ := h
  refine ⟨ao, cap, h0, h1, h2, h3, fun hne => ?_⟩
  obtain ⟨b, off, e, hb, hf⟩ := h4 hne
  have hbD : b ≠ D := by
    obtain ⟨x, hx⟩ : ∃ x, fs[0]? = some x := ⟨_, List.getElem?_eq_getElem (List.length_pos_iff.2 hne)⟩
    exact hstr b _ _ (hf 0 x hx).2.2.1
  refine ⟨b, off, e, Nat.lt_of_lt_of_le hb m.size, fun k x hk => ?_⟩
  obtain ⟨y0, y1, y2, ao', cap', y3, y4, y5⟩ := hf k x hk
  refine ⟨(m.cell (p := ⟨b, off + k * 4, none⟩) hb hbD).trans y0, (m.cell (p := ⟨b, off + k * 4 + 1, none⟩) hb hbD).trans y1, (m.cell (p := ⟨b, off + k * 4 + 2, none⟩) hb hbD).trans y2, ao', cap', (m.cell (p := ⟨b, off + k * 4 + 3, none⟩) hb hbD).trans y3, y4, y5.moves2 m fun hne' g hg => ?_⟩
  obtain ⟨ao2, cap2, e2, hc2'⟩ := y5
  obtain ⟨b2, off2, e3, hb2, hk2⟩ := hc2' hne'
  have : b2 ≠ D := hstr b2 _ _ (hk2 0 _ (List.getElem?_eq_getElem (List.length_pos_iff.2 hne')))
  injection e2 with e2 _ _
  rw [e2, e3] at hg
  simp only [Value.ownBlock, Option.some.injEq] at hg
  omega

/-- The letters of a format. -/
def lettersOf (f : ByteArray) : List UInt8 := f.data.toList
theorem bs_letters (f : ByteArray) : bs (lettersOf f) = f := bs_list f
theorem table_letters : ∀ r ∈ tableP, ∀ f ∈ r.2.2, (lettersOf f).length ≤ 13 ∧ ∀ k ∈ lettersOf f, k ∈ letters8 := by decide
theorem forms_letters {n : Int} {f : ByteArray} (hf : f ∈ formsP n) : (lettersOf f).length ≤ 13 ∧ ∀ k ∈ lettersOf f, k ∈ letters8 := by
  rcases formsP_mem n with e | ⟨r, hr, e⟩
  · rw [e] at hf; cases hf
  · rw [e] at hf
    exact table_letters r hr f hf
/-- What a format makes of bytes: the fields, or where it fails and how. -/
def fitsF (f : ByteArray) (s : List UInt8) : Bool := decide ((readsP (lettersOf f) s).2.1 = 0) && decide (endP (readsP (lettersOf f) s).2.2.2 0 = 0)
def fieldsF (f : ByteArray) (s : List UInt8) : List FieldR := (readsP (lettersOf f) s).2.2.1
def placeF (f : ByteArray) (s : List UInt8) : ByteArray := if (readsP (lettersOf f) s).2.1 = 0 then endS else placeB (readsP (lettersOf f) s).1
def codeF (f : ByteArray) (s : List UInt8) : Int := if (readsP (lettersOf f) s).2.1 = 0 then endP (readsP (lettersOf f) s).2.2.2 0 else (readsP (lettersOf f) s).2.1
theorem splitF_any {w : World} (f : ByteArray) (n : Int) (hf : f ∈ formsP n) (s : List UInt8) (hs : s.length ≤ 40000) (hV : VarAt w) :
    Calls Tryz.prog 83 #[.string f, .string (bs s)] w fun e w' => Below w.heap.size w w' ∧
      ((fitsF f s = true ∧ ∃ v, e = .returned (.tuple #[v, .nilIface]) ∧ FieldsKept w' v (fieldsF f s) w.heap.size) ∨ (fitsF f s = false ∧ ∃ v t u, e = .returned (.tuple #[v, .iface t u]) ∧ ErrAt w' (.iface t u) [placeF f s] (some (codeF f s)))) := by
  have hl := forms_letters hf
  have h := split_any (lettersOf f) s hs (by omega) hl.2 hV
  rw [bs_letters] at h
  refine h.mono fun e w' ⟨hb, hc⟩ => ⟨hb, ?_⟩
  unfold fitsF fieldsF placeF codeF
  rcases hc with ⟨h1, v, t, u, h2, h3⟩ | ⟨h1, h2, v, t, u, h3, h4⟩ | ⟨h1, h2, v, h3, h4⟩
  · exact .inr ⟨by rw [decide_eq_false h1]; rfl, v, t, u, h2, by rw [if_neg h1, if_neg h1]; exact h3⟩
  · exact .inr ⟨by rw [decide_eq_true h1, decide_eq_false h2]; rfl, v, t, u, h3, by rw [if_pos h1, if_pos h1]; exact h4⟩
  · exact .inl ⟨by rw [decide_eq_true h1, decide_eq_true h2]; rfl, v, h3, h4⟩

def firstF (n : Int) : ByteArray := (formsP n).getD 0 ⟨#[]⟩
/-- What Decode leaves of a number with formats and the bytes behind it. -/
def DecPost (n : Int) (s : List UInt8) (w : World) (r : Ending) (w' : World) : Prop :=
  Below w.heap.size w w' ∧
  ((∃ f v, (formsP n).find? (fun f => fitsF f s) = some f ∧ r = .returned (.tuple #[msgV n v, .nilIface]) ∧ FieldsKept w' v (fieldsF f s) w.heap.size) ∨
   ((formsP n).find? (fun f => fitsF f s) = none ∧ ∃ t u, r = .returned (.tuple #[zeroM, .iface t u]) ∧ ErrAt w' (.iface t u) [wordP n, placeF (firstF n) s] (some (codeF (firstF n) s))))
theorem find_at {p : ByteArray → Bool} {l : List ByteArray} {k : Nat} (hk : k < l.length) (h : ∀ x ∈ l.take k, p x = false) (hp : p l[k] = true) : l.find? p = some l[k] := by
  obtain ⟨c, hc⟩ : ∃ c, c = l[k] := ⟨_, rfl⟩
  rw [← hc] at hp ⊢
  have e : l = l.take k ++ c :: l.drop (k + 1) := by rw [hc, ← List.drop_eq_getElem_cons hk, List.take_append_drop]
  have h1 : (l.take k).find? p = none := by
    rw [List.find?_eq_none]
    intro x hx
    rw [h x hx]
    simp
  have h2 : (l.take k ++ c :: l.drop (k + 1)).find? p = some c := by
    rw [List.find?_append, h1, List.find?_cons, hp]
    rfl
  rw [← e] at h2
  exact h2

set_option maxHeartbeats 2000000 in
set_option maxRecDepth 100000 in
theorem decode_some {w : World} {b : UInt8} {s : List UInt8} (hs : s.length ≤ 32767) (hk : formsP (b.toNat : Int) ≠ []) (hT : TabAt w) (hV : VarAt w) :
    Calls Tryz.prog 31 #[.string (bs (b :: s))] w (DecPost (b.toNat : Int) s w) := by
  have HK : Hid (∀ W, Calls Tryz.prog 81 #[.int .i64 (b.toNat : Int)] W fun e w' => e = .returned (.bool true) ∧ Below W.heap.size W w') := fun W => by
    have := known7_any W (b.toNat : Int)
    rwa [decide_eq_true (List.length_pos_iff.2 hk)] at this
  have HF := Lib.hid (fun W => forms_any W (b.toNat : Int))
  have hix : ∀ W : World, (Instr.index 9 (.string (bs (b :: s))) (.int .i64 0)).run Tryz.prog W = .ok (.int .u8 (b.toNat : Int)) W := fun W => index_bs (b :: s) 0 (by simp) W
  have hcv : ∀ W : World, (convert 5 3 (.int .u8 (b.toNat : Int))).run Tryz.prog W = .ok (.int .i64 (b.toNat : Int)) W := fun W => by
    have := UInt8.toNat_lt b
    have h : IntKind.i64.wrap (b.toNat : Int) = (b.toNat : Int) := IntWalk.i64_in _ (by omega)
    simp [go_sem, Tryz.underlying5, Tryz.underlying3, h]
  have hsz : (bs (b :: s)).size = s.length + 1 := by rw [bs_size]; rfl
  have hne : (bs (b :: s)).toList.isEmpty = false := by rw [ByteArray.toList_eq]; simp [bs]
  have hdr : (bs (b :: s)).extract 1 (s.length + 1) = bs s := by have := bs_drop (b :: s) 1; rw [hsz] at this; exact this
  have q1 : decide (((s.length : Int) + 1) > 32768) = false := decide_eq_false (by omega)
  have q2 : decide (32768 < ((s.length : Int) + 1)) = false := decide_eq_false (by omega)
  have hsz2 : (bs (b :: s)).size ≤ 40000 := by omega
  have HSp : Hid (∀ (W : World) (f : ByteArray) (_ : f ∈ formsP (b.toNat : Int)) (_ : VarAt W), _) := fun W f hf hW => splitF_any f _ hf s (show s.length ≤ 40000 by omega) hW
  have HWo : Hid (∀ W, TabAt W → _) := fun W (hW : TabAt W) => word_any hW (b.toNat : Int)
  have HAt := Lib.hid (fun (t : TypeId) (u : Value) (W : World) => fAt_some (wordP (b.toNat : Int)) t u W)
  have HTa := Lib.hid hT
  have HVa := Lib.hid hV
  have hvl := hV.pos
  have hp0 := List.length_pos_iff.2 hk
  have hl3 := formsP_len (b.toNat : Int)
  unfold DecPost
  generalize (b.toNat : Int) = n at *
  generalize bs (b :: s) = P at *
  generalize bs s = S at *
  have hD0 := Holds.new w 72 #[.int .i64 0, .slice none 0 0]
  have hB0 : Below w.heap.size w (w.alloc (.cells #[.int .i64 0, .slice none 0 0] 72)) := (Below.refl _ w).alloc (Nat.le_refl _) _
  have HD0 := Lib.hid hD0
  have HB0 := Lib.hid hB0
  clear hs hT hV hD0 hB0 hk
  go_enter Tryz.func31, Tryz.ntmps31
  go_wp2_with (first
    | (go_at_call 81; with_reducible refine (HK.out _).mono ?_; rintro e' w1 ⟨rfl, b1⟩))
  go_at_call 82
  refine (HF.out _).mono ?_
  rintro e' w2 ⟨v, rfl, hv, b2⟩
  obtain ⟨ao, cap, rfl, hcells⟩ := hv
  have hD2 := (HD0.out.moves (Moves.ofBelow (S := nobody) b1) (fun h => h)).moves (Moves.ofBelow (S := nobody) b2) (fun h => h)
  have hB2 : Below w.heap.size w w2 := (HB0.out.trans (b1.mono HB0.out.size)).trans (b2.mono (Nat.le_trans HB0.out.size b1.size))
  have HD2 := Lib.hid hD2
  have HB2 := Lib.hid hB2
  have HCe := Lib.hid hcells
  clear hD2 hB2 b1 b2 hcells HK HF HD0 HB0
  go_wp2_with fail
  go_loopw [5, 32] (fun f i wr => ∃ k : Nat, k ≤ (formsP n).length ∧ i = .int .i64 k ∧ (∀ x ∈ (formsP n).take k, fitsF x s = false) ∧ ((k = 0 ∧ f = .nilIface) ∨ (0 < k ∧ ∃ t u, f = .iface t u ∧ ErrAt wr (.iface t u) [placeF (firstF n) s] (some (codeF (firstF n) s)))) ∧ Holds wr w.heap.size 72 #[.int .i64 0, .slice none 0 0] ∧ Below w.heap.size w wr ∧ Below w2.heap.size w2 wr) (fun _ i _ => (formsP n).length - (intOf i).toNat)
  case atStart => exact ⟨0, Nat.zero_le _, rfl, by simp, .inl ⟨rfl, rfl⟩, HD2.out, HB2.out, Below.refl _ _⟩
  case round =>
    obtain ⟨k, hk, rfl, hno, hfirst, hD, hbw, hb2⟩ := hrel
    by_cases hlt : k < (formsP n).length
    · obtain ⟨bb, off, rfl, hbl, hc⟩ := HCe.out (by intro h; rw [h] at hlt; simp at hlt)
      have c1 : wr.cell? ⟨bb, off + k, none⟩ = some (.string ((formsP n)[k]'hlt)) := (hb2.cell (p := ⟨bb, off + k, none⟩) hbl).trans (hc k _ (List.getElem?_eq_getElem hlt))
      have HSk := Lib.hid (HSp.out wr ((formsP n)[k]'hlt) (List.getElem_mem hlt) (HVa.out.below hbw hvl))
      have HFd := Lib.hid (fun hp => find_at hlt hno hp)
      have HNo : Hid (fitsF ((formsP n)[k]'hlt) s = false → ∀ x ∈ (formsP n).take (k + 1), fitsF x s = false) := fun hp x hx => by
        rw [List.take_succ_eq_append_getElem hlt, List.mem_append] at hx
        rcases hx with hx | hx
        · exact hno x hx
        · simp at hx
          rw [hx]; exact hp
      have HFi : Hid (k = 0 → (formsP n)[k]'hlt = firstF n) := fun h => by
        subst h
        unfold firstF
        rw [List.getD_eq_getElem?_getD, List.getElem?_eq_getElem hlt]
        rfl
      have HD := Lib.hid hD
      have HBw := Lib.hid hbw
      have HB2r := Lib.hid hb2
      have HFs := Lib.hid hfirst
      clear hno hc hD hbw hb2 HCe HSp hbl HD2 HB2
      generalize (formsP n)[k]'hlt = f at *
      rcases HFs.out with ⟨hk0, rfl⟩ | ⟨hk0, t0, u0, rfl, hE0⟩
      · have HK0 := Lib.hid hk0
        clear hk0
        go_wp2_with fail
        go_at_call 83
        refine HSk.out.mono ?_
        rintro e' w3 ⟨b3, h3⟩
        have hD3 := HD.out.moves (Moves.ofBelow (S := nobody) b3) (fun h => h)
        have c0 := hD3.cell 0
        have c1' := hD3.cell 1
        have s0 := hD3.frozen 0
        have s1 := hD3.frozen 1
        rcases h3 with ⟨hfit, v, rfl, hfs⟩ | ⟨hfit, v, t, u, rfl, hE⟩
        · obtain ⟨ao3, cap3, e3, _⟩ := hfs.now
          subst e3
          go_wp2_with fail
          have hF := Holds.set (Holds.set hD3 0 (.int .i64 n)) 1 (.slice ao3 (fieldsF f s).length cap3)
          have mf : Moves (fun i => i = w.heap.size) w3 _ := ((Moves.refl (fun i => i = w.heap.size) w3).setCell (p := ⟨w.heap.size, 0, none⟩) (.inl rfl) (.int .i64 n)).setCell (p := ⟨w.heap.size, 1, none⟩) (.inl rfl) (.slice ao3 (fieldsF f s).length cap3)
          try simp only [Exit.inBlock, Exit.then]
          refine bodyPost_ret (results_row_tmp (p := 2) (u := 3) rfl _ _ w.heap.size _ _ (0, 0) _ rfl hF Tryz.underlying72 rfl (by kernel_rfl)) rfl ⟨(HBw.out.trans (b3.mono HBw.out.size)).trans (mf.below (Nat.le_trans HBw.out.size b3.size) fun i hi => Nat.le_of_eq hi.symm), .inl ⟨f, .slice ao3 (fieldsF f s).length cap3, HFd.out hfit, rfl, ?_⟩⟩
          exact hfs.later mf (fun i hi => by have := HD.out.lt; omega) HBw.out.size
        · go_wp2_with fail
          go_roundw
          case rel => exact ⟨k + 1, by omega, by go_num, HNo.out hfit, .inr ⟨by omega, t, u, rfl, by rw [← HFi.out HK0.out]; exact hE⟩, hD3, HBw.out.trans (b3.mono HBw.out.size), HB2r.out.trans (b3.mono HB2r.out.size)⟩
          case measure => simp [intOf]; omega
      · have HK0 := Lib.hid hk0
        clear hk0
        go_wp2_with fail
        go_at_call 83
        refine HSk.out.mono ?_
        rintro e' w3 ⟨b3, h3⟩
        have hD3 := HD.out.moves (Moves.ofBelow (S := nobody) b3) (fun h => h)
        have c0 := hD3.cell 0
        have c1' := hD3.cell 1
        have s0 := hD3.frozen 0
        have s1 := hD3.frozen 1
        rcases h3 with ⟨hfit, v, rfl, hfs⟩ | ⟨hfit, v, t, u, rfl, hE⟩
        · obtain ⟨ao3, cap3, e3, _⟩ := hfs.now
          subst e3
          go_wp2_with fail
          have hF := Holds.set (Holds.set hD3 0 (.int .i64 n)) 1 (.slice ao3 (fieldsF f s).length cap3)
          have mf : Moves (fun i => i = w.heap.size) w3 _ := ((Moves.refl (fun i => i = w.heap.size) w3).setCell (p := ⟨w.heap.size, 0, none⟩) (.inl rfl) (.int .i64 n)).setCell (p := ⟨w.heap.size, 1, none⟩) (.inl rfl) (.slice ao3 (fieldsF f s).length cap3)
          try simp only [Exit.inBlock, Exit.then]
          refine bodyPost_ret (results_row_tmp (p := 2) (u := 3) rfl _ _ w.heap.size _ _ (0, 0) _ rfl hF Tryz.underlying72 rfl (by kernel_rfl)) rfl ⟨(HBw.out.trans (b3.mono HBw.out.size)).trans (mf.below (Nat.le_trans HBw.out.size b3.size) fun i hi => Nat.le_of_eq hi.symm), .inl ⟨f, .slice ao3 (fieldsF f s).length cap3, HFd.out hfit, rfl, ?_⟩⟩
          exact hfs.later mf (fun i hi => by have := HD.out.lt; omega) HBw.out.size
        · go_wp2_with fail
          go_roundw
          case rel => exact ⟨k + 1, by omega, by go_num, HNo.out hfit, .inr ⟨by omega, t0, u0, rfl, hE0.later b3⟩, hD3, HBw.out.trans (b3.mono HBw.out.size), HB2r.out.trans (b3.mono HB2r.out.size)⟩
          case measure => simp [intOf]; omega
    · have hkl : k = (formsP n).length := by omega
      have hall : ∀ x ∈ formsP n, fitsF x s = false := by
        rw [hkl, List.take_length] at hno
        exact hno
      have HFn : Hid ((formsP n).find? (fun f => fitsF f s) = none) := by
        show _ = _
        rw [List.find?_eq_none]
        intro x hx
        rw [hall x hx]
        simp
      rcases hfirst with ⟨hk0, _⟩ | ⟨hk0, t0, u0, rfl, hE0⟩
      · omega
      have HD := Lib.hid hD
      have HBw := Lib.hid hbw
      have HE0 := Lib.hid hE0
      have HWr := Lib.hid (HWo.out wr (HTa.out.below hbw))
      clear hno hall hD hbw hb2 hE0 hkl
      go_wp2_with fail
      go_at_call 85
      refine HWr.out.mono ?_
      rintro e' w5 ⟨rfl, b5⟩
      have hD6 := (HD.out.moves (Moves.ofBelow (S := nobody) b5) (fun h => h)).moves ((Moves.refl nobody w5).alloc (.cells #[.string (wordP n), .iface t0 u0] 171)) (fun h => h)
      have hB6 : Below w.heap.size w (w5.alloc (.cells #[.string (wordP n), .iface t0 u0] 171)) := (HBw.out.trans (b5.mono HBw.out.size)).alloc (Nat.le_trans HBw.out.size b5.size) _
      have hE6 : ErrAt (w5.alloc (.cells #[.string (wordP n), .iface t0 u0] 171)) (.iface 169 (.pointer (some ⟨w5.heap.size, 0, none⟩))) [wordP n, placeF (firstF n) s] (some (codeF (firstF n) s)) :=
        .fault (by simp) ((Holds.new w5 171 #[.string (wordP n), .iface t0 u0]).cell 0) ((Holds.new w5 171 #[.string (wordP n), .iface t0 u0]).cell 1) ((HE0.out.later b5).later ((Below.refl _ _).alloc (Nat.le_refl _) _))
      have HWd : Hid (∃ x, x = wordP n) := ⟨_, rfl⟩
      obtain ⟨WD, hWD⟩ := HWd.out
      have HWD := Lib.hid hWD
      rw [← hWD] at hD6 hB6 hE6 HAt ⊢
      clear hWD HWd
      have HD6 := Lib.hid hD6
      have HB6 := Lib.hid hB6
      have HE6 := Lib.hid hE6
      clear hB6 hE6 b5 hD6 HWr HE0
      go_wp2_with fail
      go_at_call 84
      refine (HAt.out _ _ _).mono ?_
      rintro e' w6 ⟨rfl, hw6⟩
      rw [← hw6] at HD6 HB6 HE6
      have c0 := HD6.out.cell 0
      have c1' := HD6.out.cell 1
      have s0 := HD6.out.frozen 0
      have s1 := HD6.out.frozen 1
      clear hw6
      go_wp2_with fail
      have hF := Holds.set (Holds.set HD6.out 0 (.int .i64 0)) 1 (.slice none 0 0)
      have mf : Moves (fun i => i = w.heap.size) w6 _ := ((Moves.refl (fun i => i = w.heap.size) w6).setCell (p := ⟨w.heap.size, 0, none⟩) (.inl rfl) (.int .i64 0)).setCell (p := ⟨w.heap.size, 1, none⟩) (.inl rfl) (.slice none 0 0)
      try simp only [Exit.inBlock, Exit.then]
      refine bodyPost_ret (results_row_tmp (p := 2) (u := 3) rfl _ _ w.heap.size _ _ (0, 0) _ rfl hF Tryz.underlying72 rfl (by kernel_rfl)) rfl ⟨HB6.out.trans (mf.below HB6.out.size fun i hi => Nat.le_of_eq hi.symm), .inr ⟨HFn.out, _, _, rfl, ?_⟩⟩
      rw [← HWD.out]
      exact HE6.out.set HD6.out (fun x h => by cases h) mf
end Go.Proofs.YtlalkpgipenkaaaGreatDoor

namespace Go.Proofs.YtlalkpgipenkaaaGreatDoor
open Go.RowKit

abbrev RowS := Int × ByteArray × List ByteArray
/-- A block holds the rows. -/
def RowsAt (B : Nat) (w : World) (b : Nat) (l : List RowS) : Prop :=
  b < w.heap.size ∧ B ≤ b ∧ ∀ k r, l[k]? = some r → w.cell? ⟨b, k * 3, none⟩ = some (.int .i64 r.1) ∧ w.cell? ⟨b, k * 3 + 1, none⟩ = some (.string r.2.1) ∧ ∃ c, B ≤ c ∧ w.cell? ⟨b, k * 3 + 2, none⟩ = some (.slice (some ⟨c, 0, none⟩) r.2.2.length r.2.2.length) ∧ TextsAt w (.slice (some ⟨c, 0, none⟩) r.2.2.length r.2.2.length) r.2.2
theorem RowsAt.below {B : Nat} {w w' : World} {b : Nat} {l : List RowS} (h : RowsAt B w b l) (hb : Below w.heap.size w w') : RowsAt B w' b l := by
  obtain ⟨h1, h0, h2⟩ := h
  refine ⟨Nat.lt_of_lt_of_le h1 hb.size, h0, fun k r hr => ?_⟩
  obtain ⟨a, b', v, q, c, d⟩ := h2 k r hr
  exact ⟨(hb.cell (p := ⟨b, k * 3, none⟩) h1).trans a, (hb.cell (p := ⟨b, k * 3 + 1, none⟩) h1).trans b', v, q, (hb.cell (p := ⟨b, k * 3 + 2, none⟩) h1).trans c, d.below hb⟩
end Go.Proofs.YtlalkpgipenkaaaGreatDoor

namespace Go.Proofs.YtlalkpgipenkaaaGreatDoor
open Go.RowKit

end Go.Proofs.YtlalkpgipenkaaaGreatDoor

namespace Go.Proofs.YtlalkpgipenkaaaGreatDoor
open Go.RowKit

structure ReadInv (w wr : World) (F s : List UInt8) (j : Nat) (l : List (FieldR × Value)) (r : List UInt8) (v : Value) : Prop where
  rd : RdTo F s j (l.map (·.1)) r
  len : l.length = j
  rl : r.length ≤ s.length
  own : wr.ownsRow (w.heap.size + 2) 81 4 v l.length (cells7 l)
  lists : ListsAt wr l
  far : ∀ p ∈ l, p.1.l ≠ [] → ∀ b, p.2.ownBlock = some b → w.heap.size + 1 < b ∧ v.ownBlock ≠ some b
  at_ : QAt wr (w.heap.size + 1) r 0
  err : Holds wr w.heap.size 121 #[.int .i64 0, .string ⟨#[]⟩]
  bel : Below w.heap.size w wr
theorem ReadInv.step {w wr Wb We : World} {j : Nat} {F s : List UInt8} {l : List (FieldR × Value)} {r r' : List UInt8} {v v' : Value} {x : FieldR} {ao : Option Addr} {cap : Nat} (h : ReadInv w wr F s j l r v) (hj : j < F.length) (hs : s.length ≤ 40000)
    (mb : Moves (fun i => i = w.heap.size + 1) wr Wb) (h0 : (readP F[j] r).1 = 0) (hx : (readP F[j] r).2.1 = x) (hr' : (readP F[j] r).2.2 = r') (hcap : x.l.length ≤ cap) (hu : TextsAt Wb (.slice ao x.l.length cap) (x.l.map bs)) (hnew : ∀ g, (Value.slice ao x.l.length cap).ownBlock = some g → wr.heap.size ≤ g)
    (hR : QAt Wb (w.heap.size + 1) r' 0) (hown : We.ownsRow (w.heap.size + 2) 81 4 v' (l ++ [(x, Value.slice ao x.l.length cap)]).length (cells7 (l ++ [(x, Value.slice ao x.l.length cap)]))) (me : Moves (fun i => v.ownBlock = some i) Wb We)
    (hv' : v'.ownBlock = v.ownBlock ∨ ∃ g, v'.ownBlock = some g ∧ Wb.heap.size ≤ g) :
    ReadInv w We F s (j + 1) (l ++ [(x, Value.slice ao x.l.length cap)]) r' v' := by
  have hvg : ∀ g, v.ownBlock = some g → w.heap.size + 2 ≤ g ∧ g < wr.heap.size := fun g hg => h.own.lt g hg
  have hsm : FieldSm 40000 x := by
    have := readP_in F[j] r
    rw [hx] at this
    exact this.mono (by have := h.rl; omega)
  have hrl : r'.length ≤ r.length := by rw [← hr']; exact readP_rest _ _
  have m2 : Moves (fun i => i = w.heap.size + 1 ∨ v.ownBlock = some i) wr We := (mb.mono fun i hi _ => .inl hi).trans me fun i hi => .inl (.inr hi)
  have hQl : w.heap.size + 1 < wr.heap.size := Holds.lt h.at_
  have hlist : ∀ p ∈ l, p.1.l ≠ [] → ∀ b, p.2.ownBlock = some b → b < wr.heap.size := fun p hp hne b hb => by
    obtain ⟨⟨ao', cap', e1, _, e3⟩, _⟩ := h.lists p hp
    exact e3.block (by simpa using hne) (by rw [← e1]; exact hb)
  refine ⟨?_, by rw [List.length_append, h.len]; rfl, Nat.le_trans hrl h.rl, hown, ?_, ?_, Holds.moves hR me (fun e => by have := (hvg _ e).1; omega), Holds.moves h.err m2 (by rintro (e | e); omega; have := (hvg _ e).1; omega), h.bel.trans (m2.below h.bel.size fun i hi => ?_)⟩
  · have := h.rd.next hj h0
    rw [hx, hr'] at this
    rw [List.map_append]
    exact this
  · intro p hp
    rcases List.mem_append.1 hp with hp | hp
    · obtain ⟨⟨ao', cap', e1, e2, e3⟩, e4⟩ := h.lists p hp
      refine ⟨⟨ao', cap', e1, e2, e3.moves2 m2 fun hne g hg => ?_⟩, e4⟩
      have := h.far p hp (by simpa using hne) g (by rw [e1]; exact hg)
      rintro (rfl | hi)
      · omega
      · exact this.2 hi
    · simp only [List.mem_singleton] at hp
      subst hp
      refine ⟨⟨ao, cap, rfl, hcap, hu.moves2 me fun _ g hg hi => ?_⟩, hsm.in (by omega)⟩
      have := hnew g hg
      have := (hvg g hi).2
      omega
  · intro p hp hne b hb
    rcases List.mem_append.1 hp with hp | hp
    · have h1 := h.far p hp hne b hb
      have h2 := hlist p hp hne b hb
      refine ⟨h1.1, fun e => ?_⟩
      rcases hv' with e' | ⟨g, e', hg⟩
      · exact h1.2 (e' ▸ e)
      · rw [e'] at e
        injection e with e
        have := mb.size
        omega
    · simp only [List.mem_singleton] at hp
      subst hp
      have h1 := hnew b hb
      have h2 := hu.block (by simpa using hne) hb
      refine ⟨by omega, fun e => ?_⟩
      rcases hv' with e' | ⟨g, e', hg⟩
      · have := (hvg b (e' ▸ e)).2
        omega
      · rw [e'] at e
        injection e with e
        omega
  · rcases hi with rfl | hi
    · omega
    · have := (hvg i hi).1; omega
end Go.Proofs.YtlalkpgipenkaaaGreatDoor

namespace Go.Proofs.YtlalkpgipenkaaaGreatDoor
open Go.RowKit

end Go.Proofs.YtlalkpgipenkaaaGreatDoor

namespace Go.Proofs.YtlalkpgipenkaaaGreatDoor
open Go.RowKit

end Go.Proofs.YtlalkpgipenkaaaGreatDoor

namespace Go.Proofs.YtlalkpgipenkaaaGreatDoor
open Go.RowKit

theorem formsP_apart (n : Int) : ((formsP n).map (·.size)).Nodup := by
  have h : ∀ r ∈ tableP, (r.2.2.map (·.size)).Nodup := by decide
  rcases formsP_mem n with e | ⟨r, hr, e⟩
  · rw [e]; simp
  · rw [e]; exact h r hr
theorem apart_ne {l : List ByteArray} (h : (l.map (·.size)).Nodup) {k i : Nat} (hk : k < i) (hi : i < l.length) : ((((l[k]'(by omega)).size : Nat) : Int) == ((l[i].size : Nat) : Int)) = false := by
  rw [beq_eq_false_iff_ne]
  intro e
  have e' : (l[k]'(by omega)).size = l[i].size := by omega
  have := (List.getElem_inj (xs := l.map (fun x => x.size)) (i := k) (j := i) (h₀ := by simp; omega) (h₁ := by simpa using hi) h).1 (by simpa using e')
  omega
theorem fitP_self {l : List ByteArray} (h : (l.map (·.size)).Nodup) {i : Nat} (hi : i < l.length) : fitP l ((l[i].size : Nat) : Int) = (l[i], true) := by
  refine fitP_hit hi (fun x hx => ?_) (by simp)
  obtain ⟨k, hk, rfl⟩ := List.mem_iff_getElem.1 hx
  simp only [List.length_take] at hk
  rw [List.getElem_take]
  exact apart_ne h (by omega) hi
end Go.Proofs.YtlalkpgipenkaaaGreatDoor
