/- Part 32 of what the statement wants. -/
import Derived.Deep.RegionWith
import Derived.BigRegion
import Derived.Test.YtlalkpgipenkaaaGreatDoorPk18
import Derived.Test.YtlalkpgipenkaaaGreatDoorPk20
import Derived.Test.YtlalkpgipenkaaaGreatDoorPk31
namespace Go.Proofs.YtlalkpgipenkaaaGreatDoor
open Go.RowKit

theorem ArenaAt.ne_iter {B A k p : Nat} {L : List Ent} {F : Nat → Prop} {w : World} {s : ByteArray} (h : ArenaAt B A L F w) (hk : w.heap[k]? = some (.stringIter s p)) : ¬ F k := by
  obtain ⟨mb, tv, e1, e2, e3, _, _, _, rfl⟩ := h
  rintro (rfl | rfl | h2)
  · unfold Holds at e1
    rw [e1] at hk; cases hk
  · rw [e3] at hk; cases hk
  · exact own_ne_iter e2 hk h2

/-- What the loop over the fields keeps: the arena grown, the terms made so far, the row that holds them. -/
structure TInv (B A : Nat) (L : List Ent) (F : Nat → Prop) (w0 : World) (it : Nat) (f : ByteArray) (T0 : List UInt8) (fs : List FieldR) (G k : Nat) (u : Value) (wr : World) (M : List Ent) (F' : Nat → Prop) (ids : List Int) : Prop where
  good : Good M
  pre : L <+: M
  more : M.length ≤ L.length + 1 + G * k
  texts : TAts M ids (T0 :: (fs.take k).map fieldT)
  len : ids.length = k + 1
  arena : ArenaAt B A M F' wr
  moves : Moves F w0 wr
  foot : ∀ i, F' i → F i ∨ w0.heap.size ≤ i
  own : wr.ownsRow w0.heap.size 34 1 u (k + 1) (idCells ids)
  itr : wr.heap[it]? = some (.stringIter f k)
  new : w0.heap.size ≤ it

theorem TInv.step {B A : Nat} {L : List Ent} {F : Nat → Prop} {w0 : World} {it : Nat} {f : ByteArray} {T0 : List UInt8} {fs : List FieldR} {G k : Nat} {u u' : Value} {wr W1 w2 w3 : World} {M : List Ent} {F' : Nat → Prop} {ids : List Int} {m : Int × List Ent} {x : FieldR}
    (h : TInv B A L F w0 it f T0 fs G k u wr M F' ids) (hx : fs[k]? = some x) (e1 : W1 = wr.iterAt it f (k + 1)) (hg : Grown M m (fieldT x) G) (hl : Left B A m.2 F' W1 w2) (hg3 : Moves (fun i => u.ownBlock = some i) w2 w3)
    (hown : w3.ownsRow w0.heap.size 34 1 u' (k + 1 + 1) (idCells (ids ++ [m.1]))) : ∃ F3, TInv B A L F w0 it f T0 fs G (k + 1) u' w3 m.2 F3 (ids ++ [m.1]) := by
  subst e1
  obtain ⟨F2, a2, m2, f2⟩ := hl
  have mi := iter_moves wr it f (k + 1)
  have hit := Lib.iterAt_heap wr it f k (k + 1) h.itr
  have hnF : ¬ F' it := h.arena.ne_iter h.itr
  have a1 : ArenaAt B A M F' (wr.iterAt it f (k + 1)) := h.arena.moves mi fun i hi e => hnF (e ▸ hi)
  have own1 := rdOwn_moves h.own mi (fun i hi e => own_ne_iter h.own h.itr (by rw [hi, e]))
  have hrow : ∀ i, u.ownBlock = some i → ¬ F' i := fun i hi => a1.ne_row own1 (by decide) (by decide) i hi
  have own2 := rdOwn_moves own1 m2 hrow
  have a3 : ArenaAt B A m.2 F2 w3 := a2.moves hg3 fun i hi e => a2.ne_row own2 (by decide) (by decide) i e hi
  have s1 : (wr.iterAt it f (k + 1)).heap.size = wr.heap.size := by rw [Lib.iterAt_size]
  have m01 : Moves F w0 (wr.iterAt it f (k + 1)) := h.moves.trans mi fun i hi => .inr (by rw [hi]; exact h.new)
  have m02 : Moves F w0 w2 := m01.trans m2 fun i hi => h.foot i hi
  have m03 : Moves F w0 w3 := m02.trans hg3 fun i hi => .inr (h.own.lt i hi).1
  have hit2 : w2.heap[it]? = some (.stringIter f (k + 1)) := (m2.block it (Array.getElem?_eq_some_iff.1 hit).1 hnF).trans hit
  have hit3 : w3.heap[it]? = some (.stringIter f (k + 1)) := (hg3.block it (Array.getElem?_eq_some_iff.1 hit2).1 (fun e => own_ne_iter own2 hit2 e)).trans hit2
  refine ⟨F2, hg.good, h.pre.trans hg.pre, ?_, ?_, by simp [h.len], a3, m03, fun i hi => ?_, hown, hit3, h.new⟩
  · have h1 := hg.more
    have h2 := h.more
    rw [Nat.mul_succ]
    omega
  · have hk : k < fs.length := (List.getElem?_eq_some_iff.1 hx).1
    rw [List.take_add_one, hx]
    simp only [Option.toList_some, List.map_append, List.map_cons, List.map_nil]
    exact TAts.snoc hg.is (TAts.pre hg.good hg.pre h.texts)
  · rcases f2 i hi with hi | hi
    · exact h.foot i hi
    · exact .inr (Nat.le_trans m01.size hi)

theorem listT_any {p : List UInt8} {b : UInt8} {f : ByteArray} {s : List UInt8} (h : msgP p = some (b, f, s)) : termP p = refListL (refDataL [b] :: (fieldsF f s).map fieldT) := by unfold termP; rw [h]
theorem dataT_any {p : List UInt8} (h : msgP p = none) : termP p = refDataL p := by unfold termP; rw [h]

/-- What payload.Term leaves: the term of the text, and its parts where the payload is a message. -/
structure TermOf (L : List Ent) (m : Int × List Ent) (p : List UInt8) : Prop where
  grown : Grown L m (termP p) 5000000
  parts : ∀ b f s, msgP p = some (b, f, s) → ∃ ids, TAts m.2 ids (refDataL [b] :: (fieldsF f s).map fieldT)

set_option maxHeartbeats 4000000 in
set_option maxRecDepth 100000 in
theorem pTerm_any {B A : Nat} {L : List Ent} {F : Nat → Prop} {w : World} (ha : ArenaAt B A L F w) (hG : Good L) (p : List UInt8) (hp : p.length ≤ 1000000) (hT : TabAt w) (hV : VarAt w) (hl : L.length ≤ 800000000) :
    Calls Tryz.prog 12 #[.pointer (some ⟨A, 0, none⟩), .string (bs p)] w fun e w' => ∃ m, e = .returned (.int .i64 m.1) ∧ TermOf L m p ∧ Left B A m.2 F w w' := by
  have hsz := bs_size p
  have HD := Lib.hid (gdec_any p (by omega) hT hV)
  have HDa := Lib.hid (fun (W : World) (hb : Below w.heap.size w W) => Data_any (ha.below hb) (by omega) (bs p) (by omega))
  have HS := Lib.hid ((data_same hG (by omega) p).grown.mono (show 1 ≤ 5000000 by omega))
  have HL : Hid (∀ (W W' : World) (L' : List Ent), Below w.heap.size w W → Left B A L' F W W' → Left B A L' F w W') := fun W W' L' hb h => Left.after (Moves.ofBelow hb) h
  have HTn := Lib.hid (fun h => dataT_any (p := p) h)
  have HTs := Lib.hid (fun b f s h => listT_any (p := p) (b := b) (f := f) (s := s) h)
  have HPt := Lib.hid (fun b f s h => (msgP_parts (p := p) (b := b) (f := f) (s := s) h).2)
  have HA := Lib.hid ha
  have HGo := Lib.hid hG
  have HLl := Lib.hid hl
  clear hT hV ha hG hl
  generalize bs p = P at *
  go_enter Tryz.func12, Tryz.ntmps12
  go_wp2_with fail
  go_at_call 31
  refine HD.out.mono ?_
  rintro e w1 ⟨b1, hc⟩
  clear HD
  rcases hc with ⟨b, f, s, v, hm, rfl, hk⟩ | ⟨hm, t, u, rfl⟩
  · have hm2 := HTs.out b f s hm
    obtain ⟨hs, _, hP⟩ := HPt.out b f s hm
    have hn13 : (fieldsF f s).length ≤ 13 := by rw [hP.len]; exact hP.few
    have hfz : f.size = (fieldsF f s).length := by rw [hP.size, hP.len]
    have hbl := UInt8.toNat_lt b
    have HFit : Hid (∀ W, Calls Tryz.prog 32 #[.int .i64 (b.toNat : Int), .int .i64 ((fieldsF f s).length : Int)] W fun e w' => e = .returned (.tuple #[.string f, .bool true]) ∧ Below W.heap.size W w') := fun W => by
      have := fit_any W (b.toNat : Int) ((fieldsF f s).length : Int)
      rw [hP.len] at this ⊢
      rwa [hP.fit] at this
    have HBy := Lib.hid (fun W => wByte_any b W)
    have HD2 := Lib.hid (fun (W : World) (hb : Below w.heap.size w W) => Data_any (HA.out.below hb) (by have := HLl.out; omega) (bs [b]) (by rw [bs_size]; simp))
    have HS2 := Lib.hid (data_same HGo.out (by have := HLl.out; omega) [b])
    have HNx : Hid (∀ (W : World) (k it : Nat), k < (fieldsF f s).length → W.heap[it]? = some (.stringIter f k) → ∀ ty, (Instr.next (.pointer (some ⟨it, 0, none⟩)) true ty).run Tryz.prog W = .ok (.tuple #[.bool true, .int .i64 k, .int .i32 ((((fieldsF f s).getD k zeroF).kind).toNat : Int)]) (W.iterAt it f (k + 1))) := fun W k it hk hi ty => by
      have hkf : k < f.size := by omega
      have hk2 : k < (lettersOf f).length := by rw [← hP.len]; exact hk
      have hg : f[k]'hkf = ((fieldsF f s).getD k zeroF).kind := by
        rw [hP.kind k hk2, List.getD_eq_getElem?_getD, List.getElem?_eq_getElem hk2]
        simp [lettersOf, ByteArray.getElem_eq_getElem_data]
      have hasc : ((fieldsF f s).getD k zeroF).kind.toNat < 128 := by
        rw [hP.kind k hk2, List.getD_eq_getElem?_getD, List.getElem?_eq_getElem hk2]
        exact letters_ascii (hP.letters _ (List.getElem_mem hk2))
      have := Lib.run_next_ascii_at (P := Tryz.prog) W it f k ty hi hkf (by rw [hg]; exact hasc)
      rw [hg] at this
      exact this
    have HNe : Hid (∀ (W : World) (it : Nat), W.heap[it]? = some (.stringIter f (fieldsF f s).length) → ∀ ty, (Instr.next (.pointer (some ⟨it, 0, none⟩)) true ty).run Tryz.prog W = .ok (.tuple #[.bool false]) W) := fun W it hi ty =>
      Lib.run_next_end_at (P := Tryz.prog) W it f (fieldsF f s).length ty hi (by omega)
    have HSm := Lib.hid (fun x (hx : x ∈ fieldsF f s) => (hP.small x hx).mono hs)
    have hw8 : IntKind.u8.wrap (b.toNat : Int) = (b.toNat : Int) := IntWalk.u8_in _ (by omega)
    have hw8b : (b.toNat : Int) % 256 = (b.toNat : Int) := by omega
    obtain ⟨ao, cap, hv0, hcapn, _, _, _⟩ := hk.now
    have HM2 := Lib.hid hm2
    have HPr : Hid (∀ {M : List Ent} {ids : List Int} {m : Int × List Ent}, Good m.2 → M <+: m.2 → TAts M ids (refDataL [b] :: (fieldsF f s).map fieldT) → ∀ b' f' s', msgP p = some (b', f', s') → ∃ ids, TAts m.2 ids (refDataL [b'] :: (fieldsF f' s').map fieldT)) := fun hg hp ht b' f' s' e => by
      rw [hm] at e
      injection e with e
      injection e with e1 e2
      injection e2 with e2 e3
      subst e1 e2 e3
      exact ⟨_, ht.pre hg hp⟩
    have HK := Lib.hid hk
    have HV0 := Lib.hid hv0
    clear hm hm2 hP hs hk HPt HTs HTn HS HDa hfz
    subst hv0
    generalize fieldsF f s = fs at *
    unfold msgV
    obtain ⟨n, hn⟩ : ∃ n, n = fs.length := ⟨_, rfl⟩
    rw [← hn] at HFit HNx HNe hn13 hcapn HK ⊢
    have HN := Lib.hid hn
    clear hn
    have hD0 := Holds.new w1 72 #[.int .i64 (b.toNat : Int), .slice ao n cap]
    have mD : Moves nobody w1 (w1.alloc (.cells #[.int .i64 (b.toNat : Int), .slice ao n cap] 72)) := (Moves.refl nobody w1).alloc _
    have HK0 := Lib.hid (HK.out.later mD (fun _ h => h.elim) (Nat.le_refl _))
    have hB0 : Below w.heap.size w (w1.alloc (.cells #[.int .i64 (b.toNat : Int), .slice ao n cap] 72)) := b1.alloc b1.size _
    have hDlt : w1.heap.size < (w1.alloc (.cells #[.int .i64 (b.toNat : Int), .slice ao n cap] 72)).heap.size := by simp
    have hwD : w.heap.size ≤ w1.heap.size := b1.size
    clear mD HK
    go_wp2_with fail
    generalize hw0 : w1.alloc (.cells #[.int .i64 (b.toNat : Int), .slice ao n cap] 72) = w0 at *
    have HD0 := Lib.hid hD0
    have HB0 := Lib.hid hB0
    have HDl := Lib.hid hDlt
    clear hD0 hB0 hDlt hw0 b1
    go_at_call 32
    with_reducible refine (HFit.out _).mono ?_
    rintro e w3 ⟨rfl, b3⟩
    have hD3 := HD0.out.moves (Moves.ofBelow (S := nobody) b3) (fun h => h)
    have c0 := hD3.cell 0
    have c1 := hD3.cell 1
    have hB3 := HB0.out.trans (b3.mono HB0.out.size)
    have hb30 : Below w0.heap.size w0 w3 := b3
    clear b3
    go_wp2_with (first
      | (go_at_call 33; with_reducible refine (HBy.out _).mono ?_; rintro e w4 ⟨rfl, b4⟩; have hB4 := hB3.trans (b4.mono hB3.size))
      | (go_at_call 15; (with_reducible refine (HD2.out _ hB4).mono ?_); rintro e w5 ⟨rfl, k5⟩))
    obtain ⟨F5, a5, m5, f5⟩ := k5
    have hw03 : w0.heap.size ≤ w4.heap.size := Nat.le_trans hb30.size b4.size
    have hb40 : Below w0.heap.size w0 w4 := hb30.trans (b4.mono hb30.size)
    have hg5 := Holds.new w5 34 #[.int .i64 (dataM L (bs [b])).1]
    obtain ⟨W6, hW6⟩ : ∃ W6, W6 = w5.alloc (.cells #[.int .i64 (dataM L (bs [b])).1] 34) := ⟨_, rfl⟩
    rw [← hW6] at hg5
    have mA : Moves nobody w5 W6 := by rw [hW6]; exact (Moves.refl nobody w5).alloc _
    have hs6 : W6.heap.size = w5.heap.size + 1 := by rw [hW6]; simp
    have mI : Moves nobody W6 (W6.iter f 0) := (Moves.refl nobody W6).alloc _
    have hW0 : w.heap.size ≤ w0.heap.size := HB0.out.size
    have hFlt : ∀ i, F i → i < w.heap.size := fun i hi => (HA.out.lt i hi).2
    have hs2 := HS2.out
    have HInv : Hid (TInv B A L F w0 (w5.heap.size + 1) f (refDataL [b]) fs 330000 0 (.slice (some ⟨w5.heap.size, 0, none⟩) 1 1) (W6.iter f 0) (dataM L (bs [b])).2 F5 [(dataM L (bs [b])).1]) := by
      refine ⟨hs2.good, hs2.pre, by have := hs2.more; omega, ?_, rfl, ?_, ?_, fun i hi => ?_, ?_, by rw [← hs6]; exact World.iter_heap W6 f 0, by have := m5.size; omega⟩
      · exact .cons hs2.is .nil
      · exact (a5.moves mA fun i _ h => h).moves mI fun i _ h => h
      · exact (((Moves.ofBelow hb40).trans m5 fun i hi => .inl hi).trans mA fun i hi => hi.elim).trans mI fun i hi => hi.elim
      · rcases f5 i hi with hi | hi
        · exact .inl hi
        · exact .inr (Nat.le_trans hw03 hi)
      · refine rdOwn_moves (w := W6) ?_ mI fun i _ h => h
        exact ⟨rfl, .inr ⟨w5.heap.size, 1, _, rfl, by have := m5.size; omega, hg5, Nat.le_refl _, by unfold maxLen; omega, by simp, by simp [idCells]⟩⟩
    rw [← hW6]
    have HHlt := Lib.hid hFlt
    have HW0 := Lib.hid hW0
    have hn0 : w0.heap.size ≤ w5.heap.size + 1 := by have := m5.size; omega
    have HN0 := Lib.hid hn0
    clear hg5 mA hs6 mI hW0 hFlt hs2 hW6 a5 m5 f5 hw03 hb40 hD3 c0 c1 hB3 hB4 b4 hb30 HBy HD2 HS2 hw8 hw8b HFit hn0
    generalize W6.iter f 0 = W7 at *
    generalize w5.heap.size + 1 = it at *
    generalize (dataM L (bs [b])).1 = id0 at *
    generalize (dataM L (bs [b])).2 = M0 at *
    obtain ⟨i0, hi, hz0, hz1, hz2⟩ := info_parts info_id
    go_loopw [9] (fun p wr => ∃ (k : Nat) (u : Value) (M : List Ent) (F' : Nat → Prop) (ids : List Int), u = p ∧ k ≤ n ∧ TInv B A L F w0 it f (refDataL [b]) fs 330000 k u wr M F' ids) (fun _ wr => n - itPos wr it)
    case atStart => exact ⟨0, _, _, _, _, rfl, Nat.zero_le _, HInv.out⟩
    case round =>
      clear HInv
      obtain ⟨k, u, M, F', ids, hv0, hkn, hinv⟩ := hrel
      subst hv0
      have HIp := Lib.hid (itPos_eq hinv.itr)
      by_cases hlt : k < n
      · have hnx := HNx.out wr k it hlt hinv.itr
        have hkl : k < fs.length := by have := HN.out; omega
        have hx : fs[k]? = some (fs.getD k zeroF) := by rw [List.getD_eq_getElem?_getD, List.getElem?_eq_getElem hkl]; rfl
        have hxm : fs.getD k zeroF ∈ fs := List.mem_of_getElem? hx
        have mi := iter_moves wr it f (k + 1)
        have hnF : ¬ F' it := hinv.arena.ne_iter hinv.itr
        have a1 : ArenaAt B A M F' (wr.iterAt it f (k + 1)) := hinv.arena.moves mi fun i hi e => hnF (e ▸ hi)
        have own1 := rdOwn_moves hinv.own mi (fun i hi e => own_ne_iter hinv.own hinv.itr (by rw [hi, e]))
        have m01 : Moves F w0 (wr.iterAt it f (k + 1)) := hinv.moves.trans mi fun i hi => .inr (by rw [hi]; exact hinv.new)
        have hFs := HK0.out F _ HHlt.out m01
        obtain ⟨ao', cap', e1, _, _, _, hcells⟩ := hFs
        injection e1 with e1 e2 e3
        subst e1 e3
        clear e2
        obtain ⟨bF, off, rfl, _, hat⟩ := hcells (fun e => by rw [e] at hkl; simp at hkl)
        obtain ⟨y0, y1, y2, a2, cap2, y3, hcap2, hT2⟩ := hat k _ hx
        have hD1 := HD0.out.moves m01 (fun h => by have := HHlt.out _ h; have := HW0.out; omega)
        have d1 := hD1.cell 1
        have hMl : M.length ≤ 900000000 := by
          have h1 := hinv.more
          have h2 := HLl.out
          have h3 : 330000 * k ≤ 330000 * 13 := Nat.mul_le_mul_left _ (by omega)
          have h4 : 330000 * 13 = 4290000 := rfl
          omega
        have HPf := Lib.hid (pField_any a1 hinv.good hT2 (fun ao'' cap'' e => by injection e with _ _ e; omega) (HSm.out _ hxm) hMl)
        have HOwn : Hid (∀ (w2 : World) (L' : List Ent), Left B A L' F' (wr.iterAt it f (k + 1)) w2 → w2.ownsRow w0.heap.size 34 1 u (k + 1) (idCells ids)) := fun w2 L' hL => rdOwn_moves own1 hL.moves (fun i hi => a1.ne_row own1 (by decide) (by decide) i hi)
        have HSt := Lib.hid (fun (w2 w3 : World) (m : Int × List Ent) (u' : Value) => TInv.step (W1 := wr.iterAt it f (k + 1)) (w2 := w2) (w3 := w3) (m := m) (u' := u') hinv hx rfl)
        have hsz1 : w0.heap.size ≤ (wr.iterAt it f (k + 1)).heap.size := m01.size
        have HSz := Lib.hid hsz1
        clear hinv mi hnF a1 own1 m01 hcells hat hT2 hD1 hMl hsz1 hx hxm hkl hcap2
        generalize fs.getD k zeroF = x at *
        unfold fieldV at HPf
        obtain ⟨kd, xn, xs, xl⟩ := x
        simp only at HPf y0 y1 y2 y3 hnx
        generalize bs xs = XS at *
        generalize xl.length = xll at *
        generalize kd.toNat = kn at *
        generalize hWA : wr.iterAt it f (k + 1) = Wa at *
        clear hWA
        go_wp2_with (first
          | (go_at_call 34; (refine HPf.out.mono ?_); rintro e w2 ⟨m, rfl, hg, hL2⟩; have hown2 := HOwn.out _ _ hL2; have hW2 : w0.heap.size ≤ w2.heap.size := Nat.le_trans HSz.out hL2.moves.size)
          | (at_builtin; refine wpList_append_own _ rfl (.tmp 44) (.tmp 53) 27 rfl w0.heap.size 34 i0 _ 1 8 Tryz.underlying27 hi hz0 hz1 hz2 rfl (by decide) _ _ _ rfl (hown2.alloc _) ⟨w2.heap.size, 0, none⟩ 1 1 [.int .i64 m.1] rfl rfl ?c1 ?c2 ?c3 ?c4 ?c5 ?_))
        case c1 =>
          intro j y hj
          rw [Addr.add_lit, Nat.zero_add, (Holds.new w2 34 #[.int .i64 m.1]).cell]
          simpa using hj
        case c2 => intro y hy; simp at hy; subst hy; rfl
        case c3 => unfold maxLen; omega
        case c4 => omega
        case c5 => simp; omega
        intro v' w3 hown3 hg3 _
        have m' : Moves (fun i => u.ownBlock = some i) w2 w3 := ((Moves.refl _ w2).alloc _).grown hg3 fun i hi => .inl hi
        have hids : (idCells ids ++ [Value.int .i64 m.1]) = idCells (ids ++ [m.1]) := by simp [idCells]
        obtain ⟨F3, hinv3⟩ := HSt.out w2 w3 m v' hg hL2 m' (owns_cast hown3 hids)
        have HInv3 := Lib.hid hinv3
        clear hinv3 m' hids hown3 hg3 hown2 hL2 hg HOwn HPf
        go_wp2_with fail
        go_roundw
        case rel => exact ⟨k + 1, _, _, _, _, rfl, by omega, HInv3.out⟩
        case measure =>
          have h1 := HIp.out
          have h2 := itPos_eq HInv3.out.itr
          rw [h1, h2]
          omega
      · have hkn2 : k = n := by omega
        subst hkn2
        have hnx := HNe.out wr it hinv.itr
        have hMl : M.length ≤ L.length + 1 + 4290000 := by
          have h1 := hinv.more
          have h3 : 330000 * k ≤ 330000 * 13 := Nat.mul_le_mul_left _ (by omega)
          have h4 : 330000 * 13 = 4290000 := rfl
          omega
        have hM2 : M.length < 1073741824 := by have := HLl.out; omega
        have hlist := List_any hinv.arena hM2 (IdsAt.ofRow (by rw [hinv.len]; exact hinv.own) (fun e => by have := hinv.len; rw [e] at this; simp at this)) (by rw [hinv.len]; omega)
        have hsame := list_same hinv.good hM2 hinv.texts
        have htk : fs.take k = fs := List.take_of_length_le (by have := HN.out; omega)
        rw [htk, ← HM2.out] at hsame
        have HSame : Hid (TermOf L (listM M ids) p) := ⟨⟨hsame.good, hinv.pre.trans hsame.pre, by have := hsame.more; omega, hsame.is⟩, HPr.out hsame.good hsame.pre (htk ▸ hinv.texts)⟩
        have HLeft : Hid (∀ W, Left B A (listM M ids).2 F' wr W → Left B A (listM M ids).2 F w W) := fun W hL => by
          obtain ⟨F6, a6, m6, f6⟩ := hL
          have m06 : Moves F w0 W := hinv.moves.trans m6 fun i hi => hinv.foot i hi
          refine ⟨F6, a6, (Moves.ofBelow HB0.out).trans m06 fun i hi => .inl hi, fun i hi => ?_⟩
          rcases f6 i hi with hi | hi
          · rcases hinv.foot i hi with hi | hi
            · exact .inl hi
            · exact .inr (Nat.le_trans HW0.out hi)
          · exact .inr (Nat.le_trans HW0.out (Nat.le_trans hinv.moves.size hi))
        have HList := Lib.hid hlist
        clear hlist hsame htk hMl hM2 hlt hinv hcapn
        go_wp2_with (go_at_call 14; (refine HList.out.mono ?_); rintro e w6 ⟨rfl, k6⟩)
        go_ret
        exact ⟨_, rfl, HSame.out, HLeft.out _ k6⟩
  · have HM := Lib.hid hm
    have HB1 := Lib.hid b1
    clear hm b1 HTs HPt
    unfold zeroM
    have HBx := Lib.hid (HB1.out.alloc HB1.out.size (.cells #[.int .i64 0, .slice none 0 0] 72))
    go_wp2_with (go_at_call 15; refine (HDa.out _ HBx.out).mono ?_; rintro e w2 ⟨rfl, k2⟩)
    go_ret
    exact ⟨_, rfl, ⟨by rw [HTn.out HM.out]; exact HS.out, fun b f s h => by rw [HM.out] at h; cases h⟩, HL.out _ _ _ HBx.out k2⟩
end Go.Proofs.YtlalkpgipenkaaaGreatDoor

namespace Go.Proofs.YtlalkpgipenkaaaGreatDoor
open Go.RowKit

/-- Pack's four blocks behind w: the arena's pointer, the key, the payload, the conditions. -/
def packW (w : World) (A : Nat) (k : Int) (S : ByteArray) : World :=
  (((w.alloc (.cells #[.pointer (some ⟨A, 0, none⟩)] 25)).alloc (.cells #[.int .i64 k] 34)).alloc (.cells #[.string S] 9)).alloc
    (.cells #[.func (.func 90) #[] #[.pointer (some ⟨w.heap.size + 1 + 1, 0, none⟩)], .int .i64 4, .func (.func 91) #[] #[.pointer (some ⟨w.heap.size + 1 + 1, 0, none⟩)], .int .i64 2,
      .func (.func 92) #[] #[.pointer (some ⟨w.heap.size, 0, none⟩), .pointer (some ⟨w.heap.size + 1, 0, none⟩)], .int .i64 1] 136)

theorem packW_facts (w : World) (A : Nat) (k : Int) (S : ByteArray) :
    Below w.heap.size w (packW w A k S) ∧ (packW w A k S).heap.size = w.heap.size + 1 + 1 + 1 + 1 ∧
    (packW w A k S).cell? ⟨w.heap.size, 0, none⟩ = some (.pointer (some ⟨A, 0, none⟩)) ∧ (packW w A k S).cell? ⟨w.heap.size + 1, 0, none⟩ = some (.int .i64 k) ∧ (packW w A k S).cell? ⟨w.heap.size + 1 + 1, 0, none⟩ = some (.string S) ∧
    Holds (packW w A k S) (w.heap.size + 1 + 1 + 1) 136 #[.func (.func 90) #[] #[.pointer (some ⟨w.heap.size + 1 + 1, 0, none⟩)], .int .i64 4, .func (.func 91) #[] #[.pointer (some ⟨w.heap.size + 1 + 1, 0, none⟩)], .int .i64 2,
      .func (.func 92) #[] #[.pointer (some ⟨w.heap.size, 0, none⟩), .pointer (some ⟨w.heap.size + 1, 0, none⟩)], .int .i64 1] := by
  unfold packW
  generalize hq : (Obj.cells #[.func (.func 90) #[] #[.pointer (some ⟨w.heap.size + 1 + 1, 0, none⟩)], .int .i64 4, .func (.func 91) #[] #[.pointer (some ⟨w.heap.size + 1 + 1, 0, none⟩)], .int .i64 2,
      .func (.func 92) #[] #[.pointer (some ⟨w.heap.size, 0, none⟩), .pointer (some ⟨w.heap.size + 1, 0, none⟩)], .int .i64 1] 136) = q
  have h1 := Holds.new w 25 #[.pointer (some ⟨A, 0, none⟩)]
  have s1 : (w.alloc (.cells #[.pointer (some ⟨A, 0, none⟩)] 25)).heap.size = w.heap.size + 1 := World.size_alloc _ _
  have m0 : Below w.heap.size w (w.alloc (.cells #[.pointer (some ⟨A, 0, none⟩)] 25)) := (Below.refl _ w).alloc (Nat.le_refl _) _
  generalize w.alloc (.cells #[.pointer (some ⟨A, 0, none⟩)] 25) = w1 at *
  have h2 := Holds.new w1 34 #[.int .i64 k]
  have s2 : (w1.alloc (.cells #[.int .i64 k] 34)).heap.size = w1.heap.size + 1 := World.size_alloc _ _
  have m1 : Moves nobody w1 (w1.alloc (.cells #[.int .i64 k] 34)) := (Moves.refl nobody w1).alloc _
  have b1 : Below w.heap.size w (w1.alloc (.cells #[.int .i64 k] 34)) := m0.alloc m0.size _
  rw [s1] at h2
  generalize w1.alloc (.cells #[.int .i64 k] 34) = w2 at *
  have h3 := Holds.new w2 9 #[.string S]
  have s3 : (w2.alloc (.cells #[.string S] 9)).heap.size = w2.heap.size + 1 := World.size_alloc _ _
  have m2 : Moves nobody w2 (w2.alloc (.cells #[.string S] 9)) := (Moves.refl nobody w2).alloc _
  have b2 : Below w.heap.size w (w2.alloc (.cells #[.string S] 9)) := b1.alloc b1.size _
  rw [s2, s1] at h3
  generalize w2.alloc (.cells #[.string S] 9) = w3 at *
  have m3 : Moves nobody w3 (w3.alloc q) := (Moves.refl nobody w3).alloc _
  have b3 : Below w.heap.size w (w3.alloc q) := b2.alloc b2.size _
  have s4 : (w3.alloc q).heap.size = w3.heap.size + 1 := World.size_alloc _ _
  subst hq
  have h4 := Holds.new w3 136 #[.func (.func 90) #[] #[.pointer (some ⟨w.heap.size + 1 + 1, 0, none⟩)], .int .i64 4, .func (.func 91) #[] #[.pointer (some ⟨w.heap.size + 1 + 1, 0, none⟩)], .int .i64 2,
      .func (.func 92) #[] #[.pointer (some ⟨w.heap.size, 0, none⟩), .pointer (some ⟨w.heap.size + 1, 0, none⟩)], .int .i64 1]
  rw [s3, s2, s1] at h4
  exact ⟨b3, by rw [s4, s3, s2, s1], (((h1.moves m1 (fun h => h)).moves m2 (fun h => h)).moves m3 (fun h => h)).cell 0, ((h2.moves m2 (fun h => h)).moves m3 (fun h => h)).cell 0, (h3.moves m3 (fun h => h)).cell 0, h4⟩

theorem packW_check {B A : Nat} {L : List Ent} {F : Nat → Prop} {w : World} (ha : ArenaAt B A L F w) {k : Nat} (hk : k < L.length) {S : ByteArray} (h0 : S.toList.isEmpty = false) (h1 : S.size ≤ 32768) :
    Calls Tryz.prog 89 #[.slice (some ⟨w.heap.size + 1 + 1 + 1, 0, none⟩) 3 3] (packW w A k S) fun e w' => e = .returned (.int .i64 0) ∧ Below (packW w A k S).heap.size (packW w A k S) w' := by
  obtain ⟨hb, hs, hx, hy, hz, hC⟩ := packW_facts w A k S
  generalize packW w A k S = W0 at *
  have hcell : ∀ W, Below W0.heap.size W0 W → ∀ {p : Addr} {v : Value}, W0.cell? p = some v → W.cell? p = some v := fun W hW p v h => (hW.cell (World.block_lt_of_cell? W0 _ h)).trans h
  exact slCheck_pack (hC.cell 0) (hC.cell 1) (fun W hW => (slPack1_yes (hcell W hW hz) h0).mono fun e w' ⟨a, b⟩ => ⟨a, by rw [b]; exact Below.refl _ _⟩) (hC.cell 2) (hC.cell 3) (fun W hW => (slPack2_yes (hcell W hW hz) h1).mono fun e w' ⟨a, b⟩ => ⟨a, by rw [b]; exact Below.refl _ _⟩)
    (hC.cell 4) (hC.cell 5) (fun W hW => slPack3_yes ((ha.below hb).below (hW.mono (by omega))) hk (hcell W hW hx) (hcell W hW hy))
end Go.Proofs.YtlalkpgipenkaaaGreatDoor

namespace Go.Proofs.YtlalkpgipenkaaaGreatDoor
open Go.RowKit

set_option maxHeartbeats 1000000 in
set_option maxRecDepth 100000 in
theorem slPack_some {B A : Nat} {L : List Ent} {F : Nat → Prop} {w : World} (ha : ArenaAt B A L F w) (hG : Good L) {k : Nat} (hk : k < L.length) (n : Nat) (hn : n ≤ 4294967295) (p : List UInt8) (hp0 : 0 < p.length) (hp : p.length ≤ 2000) (hT : TabAt w) (hV : VarAt w) (hl : L.length ≤ 700000000) (hne : refSealL (enc L k) n (termP p) ≠ []) :
    Calls Tryz.prog 37 #[.pointer (some ⟨A, 0, none⟩), .int .i64 (k : Int), .int .u32 (n : Int), .string (bs p)] w fun e w' => ∃ m, e = .returned (.tuple #[.string (bs (cnt (refSealL (enc L k) n (termP p)))), .int .i64 0]) ∧ Grown L m (refSealL (enc L k) n (termP p)) 10000000 ∧ Left B A m.2 F w w' := by
  have hmf : ∀ (fn : Fn) (first cap : Array Value) (w : World), (Instr.makeFunc fn first cap).run Tryz.prog w = .ok (.func fn first cap) w := fun _ _ _ _ => rfl
  have hsz := bs_size p
  have HS1 : (bs p).toList.isEmpty = false := frEmpty_no (by omega)
  have HS2 : (bs p).size ≤ 32768 := by omega
  have HC := Lib.hid (packW_check ha hk HS1 HS2)
  obtain ⟨hb, hs, hx, hy, hz, -⟩ := packW_facts w A k (bs p)
  have HX := Lib.hid hx
  have HY := Lib.hid hy
  have HZ := Lib.hid hz
  have HW : Hid (packW w A k (bs p) = (((w.alloc (.cells #[.pointer (some ⟨A, 0, none⟩)] 25)).alloc (.cells #[.int .i64 k] 34)).alloc (.cells #[.string (bs p)] 9)).alloc
    (.cells #[.func (.func 90) #[] #[.pointer (some ⟨w.heap.size + 1 + 1, 0, none⟩)], .int .i64 4, .func (.func 91) #[] #[.pointer (some ⟨w.heap.size + 1 + 1, 0, none⟩)], .int .i64 2,
      .func (.func 92) #[] #[.pointer (some ⟨w.heap.size, 0, none⟩), .pointer (some ⟨w.heap.size + 1, 0, none⟩)], .int .i64 1] 136)) := rfl
  generalize packW w A k (bs p) = W0 at *
  have ha0 := ha.below hb
  have HA0 := Lib.hid ha0
  have HB0 := Lib.hid hb
  have HSz := Lib.hid hs
  have HT := Lib.hid (hT.below hb)
  have hT' := hT
  clear hx hy hz HS1 HS2 hT HT
  generalize hSp : bs p = S at *
  go_enter Tryz.func37, Tryz.ntmps37
  go_wp2_with fail
  rw [← HW.out]
  go_at_call 89
  (with_reducible refine HC.out.mono ?_)
  rintro e w1 ⟨rfl, b1⟩
  have c1 : w1.cell? ⟨w.heap.size, 0, none⟩ = some (.pointer (some ⟨A, 0, none⟩)) := (b1.cell (World.block_lt_of_cell? W0 _ HX.out)).trans HX.out
  have c2 : w1.cell? ⟨w.heap.size + 1, 0, none⟩ = some (.int .i64 k) := (b1.cell (World.block_lt_of_cell? W0 _ HY.out)).trans HY.out
  have c3 : w1.cell? ⟨w.heap.size + 1 + 1, 0, none⟩ = some (.string S) := (b1.cell (World.block_lt_of_cell? W0 _ HZ.out)).trans HZ.out
  have hFw : ∀ i, F i → i < w.heap.size := fun i hi => (ha.lt i hi).2
  have hsz1 : w.heap.size + 1 + 1 < w1.heap.size := by have := b1.size; omega
  have HK : Hid (∀ W, Moves F w1 W → W.cell? ⟨w.heap.size, 0, none⟩ = some (.pointer (some ⟨A, 0, none⟩)) ∧ W.cell? ⟨w.heap.size + 1, 0, none⟩ = some (.int .i64 k) ∧ W.cell? ⟨w.heap.size + 1 + 1, 0, none⟩ = some (.string S)) := fun W m =>
    ⟨(m.cell (p := ⟨w.heap.size, 0, none⟩) (by show w.heap.size < _; omega) (fun h => Nat.lt_irrefl _ (hFw _ h))).trans c1, (m.cell (p := ⟨w.heap.size + 1, 0, none⟩) (by show w.heap.size + 1 < _; omega) (fun h => by have := hFw _ h; simp only at this; omega)).trans c2,
      (m.cell (p := ⟨w.heap.size + 1 + 1, 0, none⟩) hsz1 (fun h => by have := hFw _ h; simp only at this; omega)).trans c3⟩
  have b01 : Below w.heap.size w w1 := HB0.out.trans (b1.mono HB0.out.size)
  have mv0 : Moves F w1 w1.drew := (Moves.refl F w1).drew
  have b0d : Below w.heap.size w w1.drew := b01.drew
  have hgm := hV.pos
  have HP : Hid (Calls Tryz.prog 12 #[.pointer (some ⟨A, 0, none⟩), .string S] w1.drew fun e w' => ∃ m, e = .returned (.int .i64 m.1) ∧ TermOf L m p ∧ Left B A m.2 F w1.drew w') := by
    rw [← hSp]
    exact pTerm_any (ha.below b0d) hG p (by omega) (hT'.below b0d) (hV.below b0d hgm) (by omega)
  have HSl : Hid (∀ (m : Int × List Ent) (w2 : World), TermOf L m p → Left B A m.2 F w1.drew w2 → Calls Tryz.prog 56 #[.pointer (some ⟨A, 0, none⟩), .int .i64 (k : Int), .int .u32 (n : Int), .int .i64 m.1] w2 fun e w' =>
      ∃ m3, e = .returned (.int .i64 m3.1) ∧ Grown L m3 (refSealL (enc L k) n (termP p)) 10000000 ∧ Left B A m3.2 F w1.drew w') := fun m w2 ht hl2 => by
    obtain ⟨F2, a2, mv2, f2⟩ := hl2
    have hg := ht.grown
    have hgm := hg.more
    have hs := seal_same hg.good (by omega) n hn (TAt.pre (.inr ⟨k, rfl, hk, rfl⟩ : TAt L (k : Int) (enc L k)) hg.good hg.pre) hg.is
    refine (Seal_any a2 (by omega) k n hn m.1).mono ?_
    rintro e w3 ⟨rfl, F3, a3, mv3, f3⟩
    have hm := hs.more
    exact ⟨_, rfl, ⟨hs.good, hg.pre.trans hs.pre, by omega, hs.is⟩, ⟨F3, a3, mv2.trans mv3 fun i hi => (f2 i hi).imp_right id, fun i hi => by
      rcases f3 i hi with h | h
      · exact f2 i h
      · exact .inr (Nat.le_trans mv2.size h)⟩⟩
  have HM0 := Lib.hid (fun (W : World) (m : Int × List Ent) (h : Left B A m.2 F w1.drew W) => mv0.trans h.moves (fun i hi => .inl hi))
  obtain ⟨y0, y1, y2⟩ := HK.out _ mv0
  have HFw := Lib.hid hFw
  have HB01 := Lib.hid b01
  have HU : Hid (∀ (m3 : Int × List Ent) (w3 : World), Grown L m3 (refSealL (enc L k) n (termP p)) 10000000 → Left B A m3.2 F w1.drew w3 → Calls Tryz.prog 94 #[.pointer (some ⟨A, 0, none⟩), .int .i64 m3.1] w3 fun e w' =>
      e = .returned (.tuple #[.string (bs (cnt (refSealL (enc L k) n (termP p)))), .int .i64 0]) ∧ Left B A m3.2 F w w') := fun m3 w3 hg hl3 => by
    obtain ⟨F3, a3, mv3', f3'⟩ := hl3
    have mv3 : Moves F w w3 := (Moves.ofBelow b0d : Moves F w w1.drew).trans mv3' fun i hi => .inl hi
    have f3 : ∀ i, F3 i → F i ∨ w.heap.size ≤ i := fun i hi => (f3' i hi).imp_right fun e => Nat.le_trans b0d.size e
    rcases hg.is with ⟨_, h⟩ | ⟨i, h1, h2, h3⟩
    · exact absurd h hne
    · have hs := TAt.short hg.good hg.is
      rw [h3] at hs
      rw [h1, h3]
      exact (slUnit_some a3 hg.good h2 hs).mono fun e w' ⟨r, b⟩ => ⟨r, left_down ⟨F3, a3, mv3, f3⟩ b⟩
  have HNo : Hid (∀ m3 : Int × List Ent, Grown L m3 (refSealL (enc L k) n (termP p)) 10000000 → (m3.1 == -1) = false) := fun m3 hg => by
    have := mt (hg.is.none_iff hg.good).1 hne
    simpa using this
  clear hFw ha hG hk hn hp0 hp hV hT' hl hne b01 b0d ha0 hb hs hsz hsz1 c1 c2 c3 hgm HX HY HZ b1 HC hSp
  generalize hR : refSealL (enc L k) n (termP p) = R at *
  have HR := Lib.hid hR
  clear hR
  go_wp2_with fail
  go_region_held3 (fun w' => w'.cell? ⟨w.heap.size, 0, none⟩ = some (.pointer (some ⟨A, 0, none⟩)) ∧ w'.cell? ⟨w.heap.size + 1, 0, none⟩ = some (.int .i64 k) ∧ w'.cell? ⟨w.heap.size + 1 + 1, 0, none⟩ = some (.string S))
    (first | with_reducible exact HK.out _ mv0 | with_reducible exact HK.out _ mv2 | with_reducible exact HK.out _ mv3 | go_keep)
    (first
      | (go_at_call 12; with_reducible refine HP.out.mono ?_; rintro e w2 ⟨m, rfl, ht, hl2⟩; have mv2 := HM0.out _ m hl2; have HSx := Lib.hid (HSl.out m w2 ht hl2); obtain ⟨v0, v1, v2⟩ := HK.out _ mv2)
      | (go_at_call 56; with_reducible refine HSx.out.mono ?_; rintro e w3 ⟨m3, rfl, hg3, hl3⟩; have mv3 := HM0.out _ m3 hl3; have HSu := Lib.hid (HU.out m3 w3 hg3 hl3); have q3 := HNo.out m3 hg3; obtain ⟨u0, u1, u2⟩ := HK.out _ mv3))
  all_goals
    have HG3 := Lib.hid hg3
    clear hg3 hl3
    obtain ⟨i3, L3⟩ := m3
    simp only at HSu q3
    go_wp2_with (go_at_call 94; with_reducible refine HSu.out.mono ?_; rintro e w4 ⟨rfl, hl4⟩)
    go_ret2
    rw [HR.out]
    exact ⟨(i3, L3), rfl, HG3.out, hl4⟩
end Go.Proofs.YtlalkpgipenkaaaGreatDoor
