/- Part 46 of what the statement wants. -/
import Derived.Test.YtkmhdepohcncaaaGreatDoorPk39
import Derived.Test.YtkmhdepohcncaaaGreatDoorPk45
namespace Go.Proofs.YtkmhdepohcncaaaGreatDoor
open Go.RowKit

set_option maxRecDepth 100000 in
theorem List_nilV {w : World} {v : Value} {l : List Int} (hv : IdsAt w v l) (hl : l.length ≤ 32) : Calls Tryz.prog 17 #[.pointer none, v] w fun e w' => e = .returned (.int .i64 (-1)) ∧ Below w.heap.size w w' := by
  obtain ⟨ao, cap, rfl, _⟩ := hv
  have hb := build_nil ⟨10, 0, 0, ⟨#[]⟩⟩ 5 (.slice ao l.length cap) w
  have HB := Lib.hid hb
  have hle : l.length ≤ 32 := hl
  generalize l.length = n at *
  go_enter Tryz.func17, Tryz.ntmps17
  go_wp2_with (go_at_call 43; refine HB.out.mono ?_; rintro e w1 ⟨rfl, b1⟩)
  go_ret
  exact ⟨rfl, b1⟩

set_option maxHeartbeats 1000000 in
set_option maxRecDepth 100000 in
theorem pField_nil {w : World} {x : FieldR} {v : Value} (hv : TextsAt w v (x.l.map bs)) (hcap : Roomy v x.l.length) (hx : FieldSm 32767 x) :
    Calls Tryz.prog 27 #[.pointer none, .int .i32 (x.kind.toNat : Int), fieldV x v] w fun e w' => e = .returned (.int .i64 (-1)) ∧ Below w.heap.size w w' := by
  have hs := hx.s
  have hkl := UInt8.toNat_lt x.kind
  have HO := Lib.hid (fun (W : World) => fdOf_nil x.s (by omega) W)
  have HV := Lib.hid (fun (W : World) (hb : Below w.heap.size w W) => value_any (hv.below hb) hcap (hx.ok (Nat.le_refl _)))
  have HD := Lib.hid (fun (s : ByteArray) (W : World) => Data_nil s W)
  obtain ⟨ao, cap, rfl, _⟩ := hv
  by_cases hk : x.kind = 116
  · have hk' : (x.kind.toNat : Int) = 116 := by rw [hk]; rfl
    unfold fieldV
    rw [hk']
    have HBx := Lib.hid ((Below.refl w.heap.size w).alloc (Nat.le_refl _) (.cells #[.int .u8 116, .int .i64 x.n, .string (bs x.s), .slice ao (x.l.map bs).length cap] 68))
    clear hk hk' HV HD
    generalize bs x.s = S at *
    generalize (x.l.map bs).length = ml at *
    go_enter Tryz.func27, Tryz.ntmps27
    go_wp2_with (first
      | (go_at_call 48; refine (HO.out _).mono ?_; rintro e w1 ⟨rfl, b1⟩))
    go_ret
    exact ⟨rfl, HBx.out.trans (b1.mono HBx.out.size)⟩
  · have hk' : ((x.kind.toNat : Int) == 116) = false := by
      rw [beq_eq_false_iff_ne]
      intro e
      exact hk (UInt8.toNat_inj.1 (by show x.kind.toNat = 116; omega))
    unfold fieldV at *
    have HBx := Lib.hid ((Below.refl w.heap.size w).alloc (Nat.le_refl _) (.cells #[.int .u8 (x.kind.toNat : Int), .int .i64 x.n, .string (bs x.s), .slice ao (x.l.map bs).length cap] 68))
    clear hk HO
    generalize bs (valueP x).1 = V at *
    generalize (valueP x).2 = V2 at *
    generalize bs x.s = S at *
    generalize (x.l.map bs).length = ml at *
    generalize x.kind.toNat = kn at *
    go_enter Tryz.func27, Tryz.ntmps27
    go_wp2_with (first
      | (go_at_call 57; refine (HV.out _ HBx.out).mono ?_; rintro e w1 ⟨rfl, b1⟩; have hB1 := HBx.out.trans (b1.mono HBx.out.size))
      | (go_at_call 18; refine (HD.out _ _).mono ?_; rintro e w2 ⟨rfl, b2⟩))
    go_ret
    exact ⟨rfl, hB1.trans (b2.mono hB1.size)⟩

structure NInv (w0 : World) (it : Nat) (f : ByteArray) (k : Nat) (u : Value) (wr : World) (ids : List Int) : Prop where
  len : ids.length = k + 1
  bel : Below w0.heap.size w0 wr
  own : wr.ownsRow w0.heap.size 25 1 u (k + 1) (idCells ids)
  itr : wr.heap[it]? = some (.stringIter f k)
  new : w0.heap.size ≤ it
theorem NInv.step {w0 : World} {it : Nat} {f : ByteArray} {k : Nat} {u u' : Value} {wr w2 w3 : World} {ids : List Int} {i : Int}
    (h : NInv w0 it f k u wr ids) (b2 : Below (wr.iterAt it f (k + 1)).heap.size (wr.iterAt it f (k + 1)) w2) (hg3 : Moves (fun i => u.ownBlock = some i) w2 w3)
    (hown : w3.ownsRow w0.heap.size 25 1 u' (k + 1 + 1) (idCells (ids ++ [i]))) : NInv w0 it f (k + 1) u' w3 (ids ++ [i]) := by
  have mi := iter_moves wr it f (k + 1)
  have hit := Lib.iterAt_heap wr it f k (k + 1) h.itr
  have own1 := rdOwn_moves h.own mi (fun i hi e => own_ne_iter h.own h.itr (by rw [hi, e]))
  have own2 := rdOwn_moves own1 (Moves.ofBelow (S := nobody) b2) (fun _ _ h => h)
  have hB1 : Below w0.heap.size w0 (wr.iterAt it f (k + 1)) := h.bel.trans (mi.below h.bel.size fun i hi => by rw [hi]; exact h.new)
  have hB2 := hB1.trans (b2.mono hB1.size)
  have hit2 : w2.heap[it]? = some (.stringIter f (k + 1)) := (b2.block it (Array.getElem?_eq_some_iff.1 hit).1).trans hit
  have hit3 : w3.heap[it]? = some (.stringIter f (k + 1)) := (hg3.block it (Array.getElem?_eq_some_iff.1 hit2).1 (fun e => own_ne_iter own2 hit2 e)).trans hit2
  exact ⟨by simp [h.len], hB2.trans (hg3.below hB2.size fun i hi => (own2.lt i hi).1), hown, hit3, h.new⟩

set_option maxHeartbeats 4000000 in
set_option maxRecDepth 100000 in
theorem pTerm_nil {w : World} (p : List UInt8) (hp : p.length ≤ 1000000) (hT : TabAt w) (hV : VarAt w) :
    Calls Tryz.prog 9 #[.pointer none, .string (bs p)] w fun e w' => e = .returned (.int .i64 (-1)) ∧ Below w.heap.size w w' := by
  have hsz := bs_size p
  have HD := Lib.hid (gdec_any p (by omega) hT hV)
  have HDa := Lib.hid (fun (s : ByteArray) (W : World) => Data_nil s W)
  have HPt := Lib.hid (fun b f s h => (msgP_parts (p := p) (b := b) (f := f) (s := s) h).2)
  clear hT hV
  generalize bs p = P at *
  go_enter Tryz.func9, Tryz.ntmps9
  go_wp2_with fail
  go_at_call 24
  refine HD.out.mono ?_
  rintro e w1 ⟨b1, hc⟩
  clear HD
  rcases hc with ⟨b, f, s, v, hm, rfl, hk⟩ | ⟨hm, t, u, rfl⟩
  · obtain ⟨hs, _, hP⟩ := HPt.out b f s hm
    have hn13 : (fieldsF f s).length ≤ 13 := by rw [hP.len]; exact hP.few
    have hfz : f.size = (fieldsF f s).length := by rw [hP.size, hP.len]
    have hbl := UInt8.toNat_lt b
    have HFit : Hid (∀ W, Calls Tryz.prog 25 #[.int .i64 (b.toNat : Int), .int .i64 ((fieldsF f s).length : Int)] W fun e w' => e = .returned (.tuple #[.string f, .bool true]) ∧ Below W.heap.size W w') := fun W => by
      have := fit_any W (b.toNat : Int) ((fieldsF f s).length : Int)
      rw [hP.len] at this ⊢
      rwa [hP.fit] at this
    have HBy := Lib.hid (fun W => wByte_any b W)
    have HNx : Hid (∀ (W : World) (k it : Nat), k < (fieldsF f s).length → W.heap[it]? = some (.stringIter f k) → ∀ ty, (Instr.next (.pointer (some ⟨it, 0, none⟩)) true ty).run Tryz.prog W = .ok (.tuple #[.bool true, .int .i64 k, .int .i32 ((((fieldsF f s).getD k zeroF).kind).toNat : Int)]) (W.iterAt it f (k + 1))) := fun W k it hk hi ty => by
      have hkf : k < f.size := by omega
      have hk2 : k < (lettersOf f).length := by rw [← hP.len]; exact hk
      have hg : f[k]'hkf = ((fieldsF f s).getD k zeroF).kind := by
        rw [hP.kind k hk2, List.getD_eq_getElem?_getD, List.getElem?_eq_getElem hk2]
        simp [lettersOf, ByteArray.getElem_eq_getElem_data]
      have hasc : ((fieldsF f s).getD k zeroF).kind.toNat < 128 := by
        rw [hP.kind k hk2, List.getD_eq_getElem?_getD, List.getElem?_eq_getElem hk2]
        exact letters_ascii (hP.letters _ (List.getElem_mem hk2))
      have := Lib.run_next_ascii_at (P := Tryz.prog) W it f k ty hi hkf (by rw [hg]; exact hasc)
      rw [hg] at this
      exact this
    have HNe : Hid (∀ (W : World) (it : Nat), W.heap[it]? = some (.stringIter f (fieldsF f s).length) → ∀ ty, (Instr.next (.pointer (some ⟨it, 0, none⟩)) true ty).run Tryz.prog W = .ok (.tuple #[.bool false]) W) := fun W it hi ty =>
      Lib.run_next_end_at (P := Tryz.prog) W it f (fieldsF f s).length ty hi (by omega)
    have HSm := Lib.hid (fun x (hx : x ∈ fieldsF f s) => (hP.small x hx).mono hs)
    have hw8 : IntKind.u8.wrap (b.toNat : Int) = (b.toNat : Int) := IntWalk.u8_in _ (by omega)
    have hw8b : (b.toNat : Int) % 256 = (b.toNat : Int) := by omega
    obtain ⟨ao, cap, hv0, hcapn, _, _, _⟩ := hk.now
    have HK := Lib.hid hk
    have HV0 := Lib.hid hv0
    clear hm hP hs hk HPt hfz
    subst hv0
    generalize fieldsF f s = fs at *
    unfold msgV
    obtain ⟨n, hn⟩ : ∃ n, n = fs.length := ⟨_, rfl⟩
    rw [← hn] at HFit HNx HNe hn13 hcapn HK ⊢
    have HN := Lib.hid hn
    clear hn
    have hD0 := Holds.new w1 59 #[.int .i64 (b.toNat : Int), .slice ao n cap]
    have mD : Moves nobody w1 (w1.alloc (.cells #[.int .i64 (b.toNat : Int), .slice ao n cap] 59)) := (Moves.refl nobody w1).alloc _
    have HK0 := Lib.hid (HK.out.later mD (fun _ h => h.elim) (Nat.le_refl _))
    have hB0 : Below w.heap.size w (w1.alloc (.cells #[.int .i64 (b.toNat : Int), .slice ao n cap] 59)) := b1.alloc b1.size _
    have hDlt : w1.heap.size < (w1.alloc (.cells #[.int .i64 (b.toNat : Int), .slice ao n cap] 59)).heap.size := by simp
    have hwD : w.heap.size ≤ w1.heap.size := b1.size
    clear mD HK
    go_wp2_with fail
    generalize hw0 : w1.alloc (.cells #[.int .i64 (b.toNat : Int), .slice ao n cap] 59) = w0 at *
    have HD0 := Lib.hid hD0
    have HB0 := Lib.hid hB0
    have HDl := Lib.hid hDlt
    clear hD0 hB0 hDlt hw0 b1
    go_at_call 25
    with_reducible refine (HFit.out _).mono ?_
    rintro e w3 ⟨rfl, b3⟩
    have hD3 := HD0.out.moves (Moves.ofBelow (S := nobody) b3) (fun h => h)
    have c0 := hD3.cell 0
    have c1 := hD3.cell 1
    have hB3 := HB0.out.trans (b3.mono HB0.out.size)
    have hb30 : Below w0.heap.size w0 w3 := b3
    clear b3
    go_wp2_with (first
      | (go_at_call 26; with_reducible refine (HBy.out _).mono ?_; rintro e w4 ⟨rfl, b4⟩; have hB4 := hB3.trans (b4.mono hB3.size))
      | (go_at_call 18; (with_reducible refine (HDa.out _ _).mono ?_); rintro e w5 ⟨rfl, b5⟩))
    have hb40 : Below w0.heap.size w0 w5 := (hb30.trans (b4.mono hb30.size)).trans (b5.mono (Nat.le_trans hb30.size b4.size))
    have hg5 := Holds.new w5 25 #[.int .i64 (-1)]
    obtain ⟨W6, hW6⟩ : ∃ W6, W6 = w5.alloc (.cells #[.int .i64 (-1)] 25) := ⟨_, rfl⟩
    rw [← hW6] at hg5
    have mA : Moves nobody w5 W6 := by rw [hW6]; exact (Moves.refl nobody w5).alloc _
    have hs6 : W6.heap.size = w5.heap.size + 1 := by rw [hW6]; simp
    have mI : Moves nobody W6 (W6.iter f 0) := (Moves.refl nobody W6).alloc _
    have hW0 : w.heap.size ≤ w0.heap.size := HB0.out.size
    have hbI : Below w0.heap.size w0 (W6.iter f 0) := (hb40.trans (mA.below hb40.size fun _ h => h.elim)).trans (mI.below (Nat.le_trans hb40.size mA.size) fun _ h => h.elim)
    have HInv : Hid (NInv w0 (w5.heap.size + 1) f 0 (.slice (some ⟨w5.heap.size, 0, none⟩) 1 1) (W6.iter f 0) [-1]) := by
      refine ⟨rfl, hbI, ?_, by rw [← hs6]; exact World.iter_heap W6 f 0, by have := hb40.size; omega⟩
      refine rdOwn_moves (w := W6) ?_ mI fun i _ h => h
      exact ⟨rfl, .inr ⟨w5.heap.size, 1, _, rfl, hb40.size, hg5, Nat.le_refl _, by unfold maxLen; omega, by simp, by simp [idCells]⟩⟩
    rw [← hW6]
    have HW0 := Lib.hid hW0
    have hn0 : w0.heap.size ≤ w5.heap.size + 1 := by have := hb40.size; omega
    have HN0 := Lib.hid hn0
    clear hg5 mA hs6 mI hW0 hbI hW6 b5 hb40 hD3 c0 c1 hB3 hB4 b4 hb30 HBy hw8 hw8b HFit hn0
    generalize W6.iter f 0 = W7 at *
    generalize w5.heap.size + 1 = it at *
    obtain ⟨i0, hi, hz0, hz1, hz2⟩ := info_parts info_id
    go_loopw [9] (fun p wr => ∃ (k : Nat) (u : Value) (ids : List Int), u = p ∧ k ≤ n ∧ NInv w0 it f k u wr ids) (fun _ wr => n - itPos wr it)
    case atStart => exact ⟨0, _, _, rfl, Nat.zero_le _, HInv.out⟩
    case round =>
      clear HInv
      obtain ⟨k, u, ids, hv0, hkn, hinv⟩ := hrel
      subst hv0
      have HIp := Lib.hid (itPos_eq hinv.itr)
      by_cases hlt : k < n
      · have hnx := HNx.out wr k it hlt hinv.itr
        have hkl : k < fs.length := by have := HN.out; omega
        have hx : fs[k]? = some (fs.getD k zeroF) := by rw [List.getD_eq_getElem?_getD, List.getElem?_eq_getElem hkl]; rfl
        have hxm : fs.getD k zeroF ∈ fs := List.mem_of_getElem? hx
        have mi := iter_moves wr it f (k + 1)
        have own1 := rdOwn_moves hinv.own mi (fun i hi e => own_ne_iter hinv.own hinv.itr (by rw [hi, e]))
        have m01 : Below w0.heap.size w0 (wr.iterAt it f (k + 1)) := hinv.bel.trans (mi.below hinv.bel.size fun i hi => by rw [hi]; exact hinv.new)
        have hFs := HK0.out nobody _ (fun _ h => h.elim) (Moves.ofBelow m01)
        obtain ⟨ao', cap', e1, _, _, _, hcells⟩ := hFs
        injection e1 with e1 e2 e3
        subst e1 e3
        clear e2
        obtain ⟨bF, off, rfl, _, hat⟩ := hcells (fun e => by rw [e] at hkl; simp at hkl)
        obtain ⟨y0, y1, y2, a2, cap2, y3, hcap2, hT2⟩ := hat k _ hx
        have hD1 := HD0.out.moves (Moves.ofBelow (S := nobody) m01) (fun h => h)
        have d1 := hD1.cell 1
        have HPf := Lib.hid (pField_nil hT2 (fun ao'' cap'' e => by injection e with _ _ e; omega) (HSm.out _ hxm))
        have HOwn : Hid (∀ (w2 : World), Below (wr.iterAt it f (k + 1)).heap.size (wr.iterAt it f (k + 1)) w2 → w2.ownsRow w0.heap.size 25 1 u (k + 1) (idCells ids)) := fun w2 hL => rdOwn_moves own1 (Moves.ofBelow (S := nobody) hL) (fun _ _ h => h)
        have HSt := Lib.hid (fun (w2 w3 : World) (i : Int) (u' : Value) => NInv.step (w2 := w2) (w3 := w3) (i := i) (u' := u') hinv)
        have hsz1 : w0.heap.size ≤ (wr.iterAt it f (k + 1)).heap.size := m01.size
        have HSz := Lib.hid hsz1
        clear hinv mi own1 m01 hcells hat hT2 hD1 hsz1 hx hxm hkl hcap2
        generalize fs.getD k zeroF = x at *
        unfold fieldV at HPf
        obtain ⟨kd, xn, xs, xl⟩ := x
        simp only at HPf y0 y1 y2 y3 hnx
        generalize bs xs = XS at *
        generalize xl.length = xll at *
        generalize kd.toNat = kn at *
        generalize hWA : wr.iterAt it f (k + 1) = Wa at *
        clear hWA
        go_wp2_with (first
          | (go_at_call 27; (refine HPf.out.mono ?_); rintro e w2 ⟨rfl, b2⟩; have hown2 := HOwn.out _ b2; have hW2 : w0.heap.size ≤ w2.heap.size := Nat.le_trans HSz.out b2.size)
          | (at_builtin; refine wpList_append_own _ rfl (.tmp 44) (.tmp 53) 34 rfl w0.heap.size 25 i0 _ 1 8 Tryz.underlying34 hi hz0 hz1 hz2 rfl (by decide) _ _ _ rfl (hown2.alloc _) ⟨w2.heap.size, 0, none⟩ 1 1 [.int .i64 (-1)] rfl rfl ?c1 ?c2 ?c3 ?c4 ?c5 ?_))
        case c1 =>
          intro j y hj
          rw [Addr.add_lit, Nat.zero_add, (Holds.new w2 25 #[.int .i64 (-1)]).cell]
          simpa using hj
        case c2 => intro y hy; simp at hy; subst hy; rfl
        case c3 => unfold maxLen; omega
        case c4 => omega
        case c5 => simp; omega
        intro v' w3 hown3 hg3 _
        have m' : Moves (fun i => u.ownBlock = some i) w2 w3 := ((Moves.refl _ w2).alloc _).grown hg3 fun i hi => .inl hi
        have hids : (idCells ids ++ [Value.int .i64 (-1)]) = idCells (ids ++ [-1]) := by simp [idCells]
        have hinv3 := HSt.out w2 w3 (-1) v' b2 m' (owns_cast hown3 hids)
        have HInv3 := Lib.hid hinv3
        clear hinv3 m' hids hown3 hg3 hown2 b2 HOwn HPf
        go_wp2_with fail
        go_roundw
        case rel => exact ⟨k + 1, _, _, rfl, by omega, HInv3.out⟩
        case measure =>
          have h1 := HIp.out
          have h2 := itPos_eq HInv3.out.itr
          rw [h1, h2]
          omega
      · have hkn2 : k = n := by omega
        subst hkn2
        have hnx := HNe.out wr it hinv.itr
        have HList := Lib.hid (List_nilV (w := wr) (IdsAt.ofRow (by rw [hinv.len]; exact hinv.own) (fun e => by have := hinv.len; rw [e] at this; simp at this)) (by rw [hinv.len]; omega))
        have HBw : Hid (Below w.heap.size w wr) := HB0.out.trans (hinv.bel.mono HB0.out.size)
        clear hlt hinv hcapn
        go_wp2_with (go_at_call 17; (refine HList.out.mono ?_); rintro e w6 ⟨rfl, b6⟩)
        go_ret
        exact ⟨rfl, HBw.out.trans (b6.mono HBw.out.size)⟩
  · have HB1 := Lib.hid b1
    clear hm b1 HPt
    unfold zeroM
    have HBx := Lib.hid (HB1.out.alloc HB1.out.size (.cells #[.int .i64 0, .slice none 0 0] 59))
    go_wp2_with (go_at_call 18; refine (HDa.out _ _).mono ?_; rintro e w2 ⟨rfl, b2⟩)
    go_ret
    exact ⟨rfl, HBx.out.trans (b2.mono HBx.out.size)⟩
end Go.Proofs.YtkmhdepohcncaaaGreatDoor

namespace Go.Proofs.YtkmhdepohcncaaaGreatDoor
open Go.RowKit

theorem flat_le {l : List (List UInt8)} {m : Nat} (h : ∀ x ∈ l, x.length ≤ m) : l.flatten.length ≤ l.length * m := by
  induction l with
  | nil => simp
  | cons x l ih =>
    have h1 := h x (by simp)
    have h2 := ih fun y hy => h y (by simp [hy])
    rw [List.flatten_cons, List.length_append, List.length_cons, Nat.add_mul]
    omega
theorem termP_ne {p : List UInt8} (hp : p.length ≤ 2000) : termP p ≠ [] := by
  cases hm : msgP p with
  | none => rw [dataT_any hm]; exact (pyDataT p (by omega)).2.2.2
  | some q =>
    obtain ⟨b, f, s⟩ := q
    rw [listT_any hm]
    obtain ⟨rfl, _, _, hP⟩ := msgP_parts hm
    rw [List.length_cons] at hp
    have hn : (fieldsF f s).length ≤ 13 := by rw [hP.len]; exact hP.few
    have hx : ∀ x ∈ fieldsF f s, fieldT x ≠ [] ∧ (fieldT x).length ≤ 2005 := fun x hx => by
      obtain ⟨k, hk, rfl⟩ := List.mem_iff_getElem.1 hx
      have h1 := hP.value_le hk
      have h2 := (hP.small _ hx).s
      unfold fieldT
      split
      · refine ⟨(pyOf _ (by omega)).2, ?_⟩
        unfold ofL
        split
        · omega
        · rw [pyData _ (by omega)]; simp [cnt, pack4]; omega
      · refine ⟨(pyDataT _ (by omega)).2.2.2, ?_⟩
        rw [pyData _ (by omega)]; simp [cnt, pack4]; omega
    have hb := pyDataT [b] (by simp)
    have hbl : (refDataL [b]).length = 6 := by rw [pyData _ (by simp)]; rfl
    have hfl := flat_le (l := (fieldsF f s).map fieldT) (m := 2005) (fun y hy => by
      obtain ⟨x, hx', rfl⟩ := List.mem_map.1 hy
      exact (hx x hx').2)
    rw [List.length_map] at hfl
    have h3 : (fieldsF f s).length * 2005 ≤ 13 * 2005 := Nat.mul_le_mul_right _ hn
    unfold refListL
    rw [if_pos]
    · simp [tagL]
    · refine ⟨by rw [List.length_cons, List.length_map]; omega, fun y hy => ?_, ?_⟩
      · rcases List.mem_cons.1 hy with rfl | hy
        · exact hb.2.2.2
        · obtain ⟨x, hx', rfl⟩ := List.mem_map.1 hy
          exact (hx x hx').1
      · rw [List.flatten_cons, List.length_append, hbl]; omega

theorem ex9a : termP [21] = refListL [refDataL [21]] := by decide +kernel
theorem ex9b : termP [255] = refDataL [255] := by decide +kernel
theorem ex9c : termP [21] ≠ termP [255] := by decide +kernel

set_option maxHeartbeats 1000000 in
set_option maxRecDepth 100000 in
theorem awake9_any {w : World} (hTab : TabAt w) (hV : VarAt w) : Calls Tryz.prog 7 #[] w fun e w' => e = .returned (.bool true) ∧ Below w.heap.size w w' := by
  have HT := Lib.hid hTab
  have HVa := Lib.hid hV
  have hgm := hV.pos
  have HN := Lib.hid (New_any w)
  clear hTab hV
  go_enter Tryz.func7, Tryz.ntmps7
  go_wp2_with fail
  go_at_call 8
  (with_reducible refine HN.out.mono ?_)
  rintro e w1 ⟨A, F, rfl, ha, b1⟩
  have HP1 : Hid (Calls Tryz.prog 9 #[.pointer (some ⟨A, 0, none⟩), .string ⟨#[21]⟩] w1 fun e w' => ∃ m, e = .returned (.int .i64 m.1) ∧ TermOf [] m [21] ∧ Left w.heap.size A m.2 F w1 w') := pTerm_any ha Good.nil [21] (by simp) (HT.out.below b1) (HVa.out.below b1 hgm) (by simp)
  have HF := Lib.hid (fun i hi => (ha.lt i hi).1)
  have HB1 := Lib.hid b1
  clear ha b1 HN
  go_wp2_with fail
  go_at_call 9
  (with_reducible refine HP1.out.mono ?_)
  rintro e w2 ⟨m1, rfl, ht1, F2, a2, mv2, f2⟩
  have b2 : Below w.heap.size w w2 := HB1.out.trans (mv2.below HB1.out.size HF.out)
  have HP2 : Hid (Calls Tryz.prog 9 #[.pointer (some ⟨A, 0, none⟩), .string ⟨#[255]⟩] w2 fun e w' => ∃ m, e = .returned (.int .i64 m.1) ∧ TermOf m1.2 m [255] ∧ Left w.heap.size A m.2 F2 w2 w') := pTerm_any a2 ht1.grown.good [255] (by simp) (HT.out.below b2) (HVa.out.below b2 hgm) (by have := ht1.grown.more; simp at this; omega)
  have HF2 := Lib.hid (fun i hi => (a2.lt i hi).1)
  have HB2 := Lib.hid b2
  have HT1 := Lib.hid ht1
  clear a2 mv2 f2 b2 ht1 HP1
  go_wp2_with fail
  go_at_call 9
  (with_reducible refine HP2.out.mono ?_)
  rintro e w3 ⟨m2, rfl, ht2, F3, a3, mv3, f3⟩
  have b3 : Below w.heap.size w w3 := HB2.out.trans (mv3.below HB2.out.size HF2.out)
  have hl2 : m2.2.length ≤ 10000000 := by
    have h1 := HT1.out.grown.more
    have h2 := ht2.grown.more
    simp at h1
    omega
  have HD3 : Hid (Calls Tryz.prog 18 #[.pointer (some ⟨A, 0, none⟩), .string ⟨#[21]⟩] w3 (Makes w.heap.size A F3 w3 (dataM m2.2 ⟨#[21]⟩))) := Data_any a3 (by omega) ⟨#[21]⟩ (by decide)
  have hS3 : Same m2.2 (dataM m2.2 ⟨#[21]⟩) (refDataL [21]) := data_same ht2.grown.good (by omega) [21]
  have HF3 := Lib.hid (fun i hi => (a3.lt i hi).1)
  have HB3 := Lib.hid b3
  have HT2 := Lib.hid ht2
  have HS3 := Lib.hid hS3
  have HL2 := Lib.hid hl2
  clear a3 mv3 f3 b3 ht2 HP2 hS3 hl2
  generalize dataM m2.2 ⟨#[21]⟩ = m3 at *
  go_wp2_with fail
  go_at_call 18
  (with_reducible refine HD3.out.mono ?_)
  rintro e w4 ⟨rfl, F4, a4, mv4, f4⟩
  have b4 : Below w.heap.size w w4 := HB3.out.trans (mv4.below HB3.out.size HF3.out)
  have hg5 := Holds.new w4 25 #[.int .i64 m3.1]
  have hb45 : Below w4.heap.size w4 (w4.alloc (.cells #[.int .i64 m3.1] 25)) := (Below.refl _ w4).alloc (Nat.le_refl _) _
  have hv5 : IdsAt (w4.alloc (.cells #[.int .i64 m3.1] 25)) (.slice (some ⟨w4.heap.size, 0, none⟩) 1 1) [m3.1] := ⟨_, _, rfl, fun _ => ⟨w4.heap.size, 0, rfl, by simp, fun k x hk => by rw [Nat.zero_add]; rw [hg5.cell]; cases k with
    | zero => simpa using hk
    | succ k => simp at hk⟩⟩
  have hm3l : m3.2.length < 1073741824 := by have := HS3.out.more; have := HL2.out; omega
  have HL5 := Lib.hid (List_any (a4.below hb45) hm3l hv5 (by simp))
  have hS4 : Same m3.2 (listM m3.2 [m3.1]) (refListL [refDataL [21]]) := list_same HS3.out.good hm3l (.cons HS3.out.is .nil)
  have HS4 := Lib.hid hS4
  have HF4 := Lib.hid (fun i hi => (a4.lt i hi).1)
  have HB4 := Lib.hid (b4.trans (hb45.mono b4.size))
  clear a4 mv4 f4 b4 HD3 hg5 hb45 hv5 hS4 hm3l
  generalize listM m3.2 [m3.1] = m4 at *
  go_wp2_with fail
  go_at_call 17
  (with_reducible refine HL5.out.mono ?_)
  rintro e w6 ⟨rfl, F6, a6, mv6, f6⟩
  have b6 : Below w.heap.size w w6 := HB4.out.trans (mv6.below HB4.out.size HF4.out)
  have hm4l : m4.2.length < 1073741824 := by have := HS4.out.more; have := HS3.out.more; have := HL2.out; omega
  have HD6 : Hid (Calls Tryz.prog 18 #[.pointer (some ⟨A, 0, none⟩), .string ⟨#[255]⟩] w6 (Makes w.heap.size A F6 w6 (dataM m4.2 ⟨#[255]⟩))) := Data_any a6 (by omega) ⟨#[255]⟩ (by decide)
  have hS5 : Same m4.2 (dataM m4.2 ⟨#[255]⟩) (refDataL [255]) := data_same HS4.out.good (by omega) [255]
  have g5 := hS5.good
  have p45 := hS5.pre
  have p34 := HS4.out.pre
  have p23 := HS3.out.pre
  have p12 := HT2.out.grown.pre
  have t1 : TAt (dataM m4.2 ⟨#[255]⟩).2 m1.1 (termP [21]) := HT1.out.grown.is.pre g5 (p12.trans (p23.trans (p34.trans p45)))
  have t2 : TAt (dataM m4.2 ⟨#[255]⟩).2 m2.1 (termP [255]) := HT2.out.grown.is.pre g5 (p23.trans (p34.trans p45))
  have t4 : TAt (dataM m4.2 ⟨#[255]⟩).2 m4.1 (refListL [refDataL [21]]) := HS4.out.is.pre g5 p45
  have q1 : (m1.1 == m4.1) = true := by rw [beq_iff_eq]; exact (t1.same g5 t4).2 ex9a
  have q2 : (m2.1 == (dataM m4.2 ⟨#[255]⟩).1) = true := by rw [beq_iff_eq]; exact (t2.same g5 hS5.is).2 ex9b
  have q3 : (m1.1 != m2.1) = true := by rw [bne_iff_ne]; exact fun e => ex9c ((t1.same g5 t2).1 e)
  have HF6 := Lib.hid (fun i hi => (a6.lt i hi).1)
  have HB6 := Lib.hid b6
  clear a6 mv6 f6 b6 HL5 t1 t2 t4 g5 p45 p34 p23 p12 hS5 hm4l HT1 HT2 HS3 HS4
  generalize hm5 : dataM m4.2 ⟨#[255]⟩ = m5 at *
  clear hm5
  go_wp2_with fail
  go_at_call 18
  (with_reducible refine HD6.out.mono ?_)
  rintro e w7 ⟨rfl, F7, a7, mv7, f7⟩
  have HB7 := Lib.hid (HB6.out.trans (mv7.below HB6.out.size HF6.out))
  clear a7 mv7 f7 HD6
  go_wp2_with fail
  go_ret
  exact ⟨rfl, HB7.out⟩
end Go.Proofs.YtkmhdepohcncaaaGreatDoor

namespace Go.Proofs.YtkmhdepohcncaaaGreatDoor
open Go.RowKit

set_option maxHeartbeats 1000000 in
set_option maxRecDepth 100000 in
theorem PayloadTerm_small {w : World} (p : List UInt8) (hp : p.length ≤ 2000) (hTab : TabAt w) (hV : VarAt w) : Calls Tryz.prog 3 #[.string (bs p)] w fun e w' => e = .returned (.bool true) ∧ Below w.heap.size w w' := by
  have hsz := bs_size p
  have q0 : decide ((p.length : Int) > 2000) = false := decide_eq_false (by omega)
  have HT := Lib.hid hTab
  have HVa := Lib.hid hV
  have hgm := hV.pos
  have HN := Lib.hid (New_any w)
  have HAw : Hid (∀ W, Below w.heap.size w W → Calls Tryz.prog 7 #[] W fun e w' => e = .returned (.bool true) ∧ Below W.heap.size W w') := fun W hb => awake9_any (HT.out.below hb) (HVa.out.below hb hgm)
  have HR : Hid (∀ W, Calls Tryz.prog 12 #[.string (bs p)] W fun e w' => e = .returned (.string (bs (termP p))) ∧ Below W.heap.size W w') := fun W => r9Term_any p hp
  have HPn : Hid (∀ W, Below w.heap.size w W → Calls Tryz.prog 9 #[.pointer none, .string (bs p)] W fun e w' => e = .returned (.int .i64 (-1)) ∧ Below W.heap.size W w') := fun W hb => pTerm_nil p (by omega) (HT.out.below hb) (HVa.out.below hb hgm)
  have HPt : Hid (∀ (W : World) (A : Nat) (F : Nat → Prop), Below w.heap.size w W → ArenaAt w.heap.size A [] F W → Calls Tryz.prog 9 #[.pointer (some ⟨A, 0, none⟩), .string (bs p)] W fun e w' => ∃ m, e = .returned (.int .i64 m.1) ∧ TermOf [] m p ∧ Left w.heap.size A m.2 F W w') := fun W A F hb ha => pTerm_any ha Good.nil p (by omega) (HT.out.below hb) (HVa.out.below hb hgm) (by simp)
  have hne := termP_ne hp
  have hfit := Lib.hid (fun m (h : TermOf [] m p) => py_back h (by omega) hne)
  have HNe := Lib.hid hne
  clear hTab hV hne
  have HSB : Hid (∃ S, S = bs p) := ⟨_, rfl⟩
  obtain ⟨S, hS⟩ := HSB.out
  have HS := Lib.hid hS
  rw [← hS] at hsz HR HPn HPt ⊢
  clear hS HSB
  obtain ⟨T, hT⟩ : ∃ T, T = bs (termP p) := ⟨_, rfl⟩
  have HTT := Lib.hid hT
  rw [← hT] at HR
  clear hT
  go_enter Tryz.func3, Tryz.ntmps3
  go_wp2_with fail
  go_at_call 8
  (with_reducible refine HN.out.mono ?_)
  rintro e w1 ⟨A, F, rfl, ha, b1⟩
  have HP1 := Lib.hid (HPt.out w1 A F b1 ha)
  have HF := Lib.hid (fun i hi => (ha.lt i hi).1)
  have HB1 := Lib.hid b1
  clear ha b1 HN HPt
  go_wp2_with fail
  go_at_call 9
  (with_reducible refine HP1.out.mono ?_)
  rintro e w2 ⟨m, rfl, ht, F2, a2, mv2, f2⟩
  have b2 : Below w.heap.size w w2 := HB1.out.trans (mv2.below HB1.out.size HF.out)
  have hG := ht.grown.good
  have HBy := Lib.hid (pBytes_any a2 hG ht.grown.is (HT.out.below b2) (HVa.out.below b2 hgm))
  rw [hfit.out m ht] at HBy
  have HEn : Hid (∀ W, Below w2.heap.size w2 W → Calls Tryz.prog 11 #[.pointer (some ⟨A, 0, none⟩), .int .i64 m.1] W fun r w' => r = .returned (.string T) ∧ Below W.heap.size W w') := fun W hb => by
    rcases ht.grown.is with ⟨_, h⟩ | ⟨n, h1, h2, h3⟩
    · exact absurd h HNe.out
    · have hs := TAt.short hG ht.grown.is
      rw [h3] at hs
      have := Encode_any (a2.below hb) hG.encodable (List.getElem?_eq_getElem h2) (by omega)
      rw [← h3, ← HTT.out] at this
      rw [h1]
      exact this
  have HB2 := Lib.hid b2
  clear a2 mv2 f2 b2 hG ht HP1 hfit
  generalize m.1 = i at *
  go_wp2_with fail
  go_at_call 10
  (with_reducible refine HBy.out.mono ?_)
  rintro e w3 ⟨b3, s, is, rfl, h6, h7⟩
  have h8 : s = S := (h7 p rfl).trans HS.out.symm
  simp only [Option.isSome_some] at h6
  clear h7
  subst h6 h8
  have HB3 := Lib.hid (HB2.out.trans (b3.mono HB2.out.size))
  have H23 := Lib.hid b3
  clear b3 HBy
  have qT : (T.toList == T.toList) = true := beq_self_eq_true _
  have qS : (s.toList == s.toList) = true := beq_self_eq_true _
  go_wp2_with (first
    | (go_at_call 7; (with_reducible refine (HAw.out _ HB3.out).mono ?_); rintro e w4 ⟨rfl, b4⟩; have h24 := H23.out.trans (b4.mono H23.out.size); have hB4 := HB3.out.trans (b4.mono HB3.out.size))
    | (go_at_call 11; (with_reducible refine (HEn.out _ h24).mono ?_); rintro e w5 ⟨rfl, b5⟩; have hB5 := hB4.trans (b5.mono hB4.size))
    | (go_at_call 12; (with_reducible refine (HR.out _).mono ?_); rintro e w6 ⟨rfl, b6⟩; have hB6 := hB5.trans (b6.mono hB5.size))
    | (go_at_call 9; (with_reducible refine (HPn.out _ hB6).mono ?_); rintro e w7 ⟨rfl, b7⟩; have hB7 := hB6.trans (b7.mono hB6.size)))
  go_ret
  exact ⟨rfl, hB7⟩
end Go.Proofs.YtkmhdepohcncaaaGreatDoor
