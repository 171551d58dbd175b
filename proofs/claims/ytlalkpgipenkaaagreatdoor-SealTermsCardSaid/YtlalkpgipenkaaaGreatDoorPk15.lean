/- Part 15 of what the statement wants. -/
import Derived.BigQuiet
import Derived.Deep.RegionHeld3
import Derived.Test.YtlalkpgipenkaaaGreatDoorPk07
import Derived.Test.YtlalkpgipenkaaaGreatDoorPk08
import Derived.Test.YtlalkpgipenkaaaGreatDoorPk11
import Derived.Test.YtlalkpgipenkaaaGreatDoorPk12
import Derived.Test.YtlalkpgipenkaaaGreatDoorPk14
namespace Go.Proofs.YtlalkpgipenkaaaGreatDoor
open Go.RowKit

theorem takeP_le (n : Nat) (rest : List UInt8) (bad : Bool) : (takeP n rest bad).2.1.length ≤ rest.length := by
  unfold takeP
  split
  · simp
  · simp
theorem u32P_le (rest : List UInt8) (bad : Bool) : (u32P rest bad).2.1.length ≤ rest.length := takeP_le 4 rest bad
theorem u32P_lt (rest : List UInt8) (bad : Bool) : (u32P rest bad).1 ≤ 4294967295 := by
  have h : (u32P rest bad).1 = if (takeP 4 rest bad).2.2 then 0 else num4 (takeP 4 rest bad).1 := rfl
  rw [h]
  split
  · omega
  · have := num4_lt (takeP 4 rest bad).1; omega

def cntP (rest : List UInt8) (bad : Bool) : List UInt8 × List UInt8 × Bool := takeP (u32P rest bad).1 (u32P rest bad).2.1 (u32P rest bad).2.2
theorem rcounted_any {w : World} {R A : Nat} {rest : List UInt8} {bad : Bool} (h : RdAt w R A rest bad) (hr : rest.length ≤ 1000000) :
    Calls Tryz.prog 168 #[.pointer (some ⟨R, 0, none⟩)] w fun e w' => e = .returned (.string (bs (cntP rest bad).1)) ∧ RdAt w' R A (cntP rest bad).2.1 (cntP rest bad).2.2 ∧ Moves (fun k => k = R) w w' := by
  have hu := u32_any h hr
  have h1 := u32P_le rest bad
  have h2 := u32P_lt rest bad
  unfold cntP
  generalize u32P rest bad = p at *
  obtain ⟨n, r1, b1⟩ := p
  simp only at *
  have ht := Lib.hid fun (W : World) (hW : RdAt W R A r1 b1) => take_any hW (by omega) n h2
  clear h1 h2 h hr
  go_enter Tryz.func168, Tryz.ntmps168
  go_wp2_with (first
    | (go_at_call 169; refine hu.mono ?_; rintro e w1 ⟨rfl, h1, m1⟩)
    | (go_at_call 215; refine (ht.out _ h1).mono ?_; rintro e w2 ⟨rfl, h2, m2⟩))
  go_ret
  exact ⟨rfl, h2, m1.trans m2 fun _ h => .inl h⟩

end Go.Proofs.YtlalkpgipenkaaaGreatDoor

namespace Go.Proofs.YtlalkpgipenkaaaGreatDoor
open Go.RowKit

/-- What a step of the reader leaves: a term's number, the terms, the bytes, whether it is bad. -/
abbrev RT := Int × List Ent × List UInt8 × Bool

/-- n terms, one behind the other. -/
def ReadsMany (rd : List Ent → List UInt8 → Bool → RT → Prop) (L : List Ent) (r : List UInt8) (b : Bool) : Nat → List Int → List Ent × List UInt8 × Bool → Prop
  | 0, l, p => l = [] ∧ p = (L, r, b)
  | n + 1, l, p => ∃ l0 L0 r0 b0 id, ReadsMany rd L r b n l0 (L0, r0, b0) ∧ rd L0 r0 b0 (id, p) ∧ l = l0 ++ [id]
def ReadsTerms (rd : List Ent → List UInt8 → Bool → RT → Prop) (limit : Nat) (L : List Ent) (r : List UInt8) (b : Bool) (l : List Int) (p : List Ent × List UInt8 × Bool) : Prop :=
  if limit < (u32P r b).1 then l = [] ∧ p = (L, [], true) else ReadsMany rd L (u32P r b).2.1 (u32P r b).2.2 (u32P r b).1 l p
/-- The share s raised by the first k of l. -/
def ExpsTo (L : List Ent) (s : Int) (l : List Int) : Nat → Int × List Ent → Prop
  | 0, m => m = (s, L)
  | k + 1, m => ∃ m0, ExpsTo L s l k m0 ∧ ExpTo m0.2 m0.1 (l.getD k (-1)) m
def argsAt (L : List Ent) (t : Int) : List Int := ((at_ L t).map fun e => e.sh.args.map Int.ofNat).getD []
def ReadsShare (rd : List Ent → List UInt8 → Bool → RT → Prop) (L : List Ent) (r : List UInt8) (b : Bool) (q : RT) : Prop :=
  ∃ l L1 r1 b1 m, ReadsTerms rd 8 (baseM L (bs (cntP r b).1)).2 (cntP r b).2.1 (cntP r b).2.2 l (L1, r1, b1) ∧ ExpsTo L1 (baseM L (bs (cntP r b).1)).1 l l.length m ∧
    q = if argsAt m.2 m.1 = l then (m.1, m.2, r1, b1) else (-1, m.2, [], true)
/-- What stands behind the first byte, whose value is o. -/
def ReadsKind (rd : List Ent → List UInt8 → Bool → RT → Prop) (o : Nat) (L : List Ent) (r : List UInt8) (b : Bool) (q : RT) : Prop :=
  if o = 241 then q = ((dataM L (bs (cntP r b).1)).1, (dataM L (bs (cntP r b).1)).2, (cntP r b).2)
  else if o = 242 then ∃ u, u = u32P (u32P r b).2.1 (u32P r b).2.2 ∧ q = ((nonceM L (u32P r b).1 u.1).1, (nonceM L (u32P r b).1 u.1).2, u.2)
  else if o = 243 then q = ((keyM L (u32P r b).1).1, (keyM L (u32P r b).1).2, (u32P r b).2)
  else if o = 244 then ∃ k L1 p, rd L r b (k, L1, p) ∧ q = ((pubM L1 k).1, (pubM L1 k).2, p)
  else if o = 245 then ReadsShare rd L r b q
  else if o = 246 then ∃ k L1 r1 b1 t L2 p, rd L (cntP r b).2.1 (cntP r b).2.2 (k, L1, r1, b1) ∧ rd L1 r1 b1 (t, L2, p) ∧ q = ((signM L2 (bs (cntP r b).1) k t).1, (signM L2 (bs (cntP r b).1) k t).2, p)
  else if o = 247 then ∃ t L1 p, rd L r b (t, L1, p) ∧ q = ((hashM L1 t).1, (hashM L1 t).2, p)
  else if o = 248 then ∃ x L1 r1 b1 y L2 r2 b2 z L3 p, rd L (octetP r b).2.1 (octetP r b).2.2 (x, L1, r1, b1) ∧ rd L1 r1 b1 (y, L2, r2, b2) ∧ rd L2 r2 b2 (z, L3, p) ∧
    q = ((deriveM L3 (octetP r b).1 x y z).1, (deriveM L3 (octetP r b).1 x y z).2, p)
  else if o = 249 then ∃ k L1 r1 b1 t L2 p, rd L (u32P r b).2.1 (u32P r b).2.2 (k, L1, r1, b1) ∧ rd L1 r1 b1 (t, L2, p) ∧ q = ((sealM L2 k (u32P r b).1 t).1, (sealM L2 k (u32P r b).1 t).2, p)
  else if o = 250 then ∃ l L1 p, ReadsTerms rd 32 L r b l (L1, p) ∧ q = ((listM L1 l).1, (listM L1 l).2, p)
  else q = (-1, L, [], true)
def Reads : Nat → List Ent → List UInt8 → Bool → RT → Prop
  | 0, _, _, _, _ => False
  | f + 1, L, r, b, q => ReadsKind (Reads f) (octetP r b).1 L (octetP r b).2.1 (octetP r b).2.2 q
end Go.Proofs.YtlalkpgipenkaaaGreatDoor

namespace Go.Proofs.YtlalkpgipenkaaaGreatDoor
open Go.RowKit

/-- What a step of the reader leaves in memory. -/
def Left2 (B A R : Nat) (F : Nat → Prop) (w : World) (L : List Ent) (r : List UInt8) (q : List Ent × List UInt8 × Bool) (w' : World) : Prop :=
  RdAt w' R A q.2.1 q.2.2 ∧ q.1.length + 10 * q.2.1.length ≤ L.length + 10 * r.length ∧ q.2.1.length ≤ r.length ∧ ∃ F', ArenaAt B A q.1 F' w' ∧ Moves (fun k => k = R ∨ F k) w w' ∧ ∀ k, F' k → F k ∨ w.heap.size ≤ k
def RP (B A R : Nat) (F : Nat → Prop) (w : World) (L : List Ent) (r : List UInt8) (Q : RT → Prop) (e : Ending) (w' : World) : Prop :=
  ∃ q : RT, Q q ∧ e = .returned (.int .i64 q.1) ∧ Left2 B A R F w L r q.2 w'
/-- The contract of term at depth f. -/
def TermC (B A R f : Nat) : Prop := ∀ (w : World) (L : List Ent) (F : Nat → Prop) (r : List UInt8) (b : Bool), ArenaAt B A L F w → RdAt w R A r b → ¬ F R → L.length + 10 * r.length ≤ 1000000000 → r.length ≤ 1000000 → r.length < f →
  Calls Tryz.prog 135 #[.pointer (some ⟨R, 0, none⟩)] w (RP B A R F w L r (Reads f L r b))

theorem found_len (L : List Ent) (e : Ent) : (found L e).2.length ≤ L.length + 1 := by
  unfold found
  split
  · show L.length ≤ L.length + 1
    omega
  · simp
theorem built_len (L : List Ent) (h : Hd) (own : Nat) (l : List Int) : (built L h own l).2.length ≤ L.length + 1 := by
  unfold built
  split
  · exact found_len L _
  · show L.length ≤ L.length + 1
    omega

/-- Behind one step, another one. -/
theorem Left2.trans {B A R : Nat} {F : Nat → Prop} {w w1 w2 : World} {L : List Ent} {r : List UInt8} {q1 q2 : List Ent × List UInt8 × Bool} {F1 : Nat → Prop}
    (hF : Moves (fun k => k = R ∨ F k) w w1) (h1 : ∀ k, F1 k → F k ∨ w.heap.size ≤ k) (hl : q1.1.length + 10 * q1.2.1.length ≤ L.length + 10 * r.length) (hr : q1.2.1.length ≤ r.length) (h : Left2 B A R F1 w1 q1.1 q1.2.1 q2 w2) : Left2 B A R F w L r q2 w2 := by
  obtain ⟨a, b, c, F', d, e, f⟩ := h
  refine ⟨a, by omega, by omega, F', d, hF.trans e fun k hk => ?_, fun k hk => ?_⟩
  · rcases hk with rfl | hk
    · exact .inl (.inl rfl)
    · exact (h1 k hk).imp_left .inr
  · rcases f k hk with hk | hk
    · exact h1 k hk
    · exact .inr (Nat.le_trans hF.size hk)

theorem rsealed_any {B A R f : Nat} (hT : TermC B A R f) {w : World} {L : List Ent} {F : Nat → Prop} {r : List UInt8} {b : Bool} (ha : ArenaAt B A L F w) (hR : RdAt w R A r b) (hF : ¬ F R) (hl : L.length + 10 * r.length ≤ 999999999) (hr : r.length ≤ 1000000) (hf : r.length < f) :
    Calls Tryz.prog 171 #[.pointer (some ⟨R, 0, none⟩)] w fun e w' => ∃ (k : Int) (L1 : List Ent) (r1 : List UInt8) (b1 : Bool) (t : Int) (L2 : List Ent) (p : List UInt8 × Bool), Reads f L (u32P r b).2.1 (u32P r b).2.2 (k, L1, r1, b1) ∧ Reads f L1 r1 b1 (t, L2, p) ∧
      e = .returned (.int .i64 (sealM L2 k (u32P r b).1 t).1) ∧ RdAt w' R A p.1 p.2 ∧ L2.length + 10 * p.1.length ≤ L.length + 10 * r.length ∧ p.1.length ≤ r.length ∧ ∃ F', ArenaAt B A (sealM L2 k (u32P r b).1 t).2 F' w' ∧ Moves (fun k => k = R ∨ F k) w w' ∧ ∀ k, F' k → F k ∨ w.heap.size ≤ k := by
  have hu := u32_any hR hr
  have hu1 := u32P_le r b
  have hu2 := u32P_lt r b
  generalize u32P r b = u at *
  obtain ⟨n, r0, b0⟩ := u
  simp only at *
  have hRl := hR.lt
  have hA0 := Lib.hid ha
  have hT1 := Lib.hid hT
  have HB := Lib.hid (show L.length + 10 * r0.length ≤ 1000000000 ∧ r0.length ≤ 1000000 ∧ r0.length < f by omega)
  have HN := Lib.hid hu2
  have HU := Lib.hid hu1
  have HL := Lib.hid hl
  have HFF := Lib.hid hF
  clear hT ha hR hl hr hf hu1 hu2 hF
  go_enter Tryz.func171, Tryz.ntmps171
  go_wp2_with (first
    | (go_at_call 169
       refine hu.mono ?_
       rintro e w1 ⟨rfl, h1, m1⟩
       have a1 : ArenaAt B A L F w1 := hA0.out.moves m1 fun k hk e => HFF.out (e ▸ hk)
       have hc := Lib.hid (hT1.out w1 L F r0 b0 a1 h1 HFF.out HB.out.1 HB.out.2.1 HB.out.2.2))
    | (go_at_call 135
       with_reducible refine hc.out.mono ?_
       rintro e w2 ⟨⟨k, L1, r1, b1⟩, hq1, rfl, h2, l2, rr2, F2, a2, m2, f2⟩
       have hF2 : ¬ F2 R := fun h => (f2 R h).elim HFF.out fun h => by have := m1.size; omega
       have l2' : L1.length + 10 * r1.length ≤ L.length + 10 * r0.length := l2
       have rr2' : r1.length ≤ r0.length := rr2
       have hb := HB.out
       have hd := Lib.hid (hT1.out w2 L1 F2 r1 b1 a2 h2 hF2 (by omega) (by omega) (by omega))
       clear hb)
    | (go_at_call 135
       with_reducible refine hd.out.mono ?_
       rintro e w3 ⟨⟨t, L2, r2, b2⟩, hq2, rfl, h3, l3, rr3, F3, a3, m3, f3⟩
       have c0 := Holds.cell h3 0
       have l3' : L2.length + 10 * r2.length ≤ L1.length + 10 * r1.length := l3
       have rr3' : r2.length ≤ r1.length := rr3
       have hb := HB.out
       have hs := Lib.hid (Seal_any a3 (by show L2.length < 1073741824; omega) k n HN.out t)
       clear hb)
    | (go_at_call 56
       with_reducible refine hs.out.mono ?_
       rintro e w4 ⟨rfl, F4, a4, m4, f4⟩))
  go_ret
  have hm12 : Moves (fun k => k = R ∨ F k) w w2 := (m1.mono fun k h _ => .inl h).trans m2 fun k h => .inl h
  have hm13 := hm12.trans m3 fun k h => by
    rcases h with rfl | h
    · exact .inl (.inl rfl)
    · rcases f2 k h with h | h
      · exact .inl (.inr h)
      · exact .inr (Nat.le_trans m1.size h)
  have hf3 : ∀ k, F3 k → F k ∨ w.heap.size ≤ k := fun k h => by
    rcases f3 k h with h | h
    · exact (f2 k h).imp_right fun h => Nat.le_trans m1.size h
    · exact .inr (Nat.le_trans hm12.size h)
  have hu' := HU.out
  have hF3 : ¬ F3 R := fun h => (hf3 R h).elim HFF.out fun h => by omega
  refine ⟨k, L1, r1, b1, t, L2, (r2, b2), hq1, hq2, rfl, h3.moves m4 hF3, by show L2.length + 10 * r2.length ≤ _; omega, by show r2.length ≤ _; omega, F4, a4, hm13.trans m4 fun k h => (hf3 k h).imp_left .inr, fun k h => ?_⟩
  rcases f4 k h with h | h
  · exact hf3 k h
  · exact .inr (Nat.le_trans hm13.size h)

theorem ArenaAt.ne_row {B A base n : Nat} {L : List Ent} {F : Nat → Prop} {w : World} {t : TypeId} {v : Value} {xs : List Value} (h : ArenaAt B A L F w) (hr : w.ownsRow base t 1 v n xs) (h1 : t ≠ 56) (h2 : t ≠ 86) : ∀ k, v.ownBlock = some k → ¬ F k := by
  obtain ⟨mb, tv, e1, e2, e3, _, _, _, rfl⟩ := h
  intro k hk
  rcases hr.2 with ⟨rfl, _⟩ | ⟨g, cap, cur, rfl, _, hg, _⟩
  · simp [Value.ownBlock] at hk
  · have : g = k := by simpa [Value.ownBlock] using hk
    subst this
    rintro (rfl | rfl | hk2)
    · unfold Holds at e1
      rw [e1] at hg
      injection hg with hg
      injection hg with _ h
      exact h1 h.symm
    · rw [e3] at hg
      injection hg with hg
      cases hg
    · rcases e2.2 with ⟨rfl, _⟩ | ⟨g', cap', cur', rfl, _, hg', _⟩
      · simp [Value.ownBlock] at hk2
      · have : g' = g := by simpa [Value.ownBlock] using hk2
        subst this
        rw [hg'] at hg
        injection hg with hg
        injection hg with _ h
        exact h2 h.symm

def idCells (l : List Int) : List Value := l.map (.int .i64 ·)

set_option maxRecDepth 100000 in
theorem rterms_any {B A R f limit : Nat} (hT : TermC B A R f) (hlim : limit ≤ 32) {w : World} {L : List Ent} {F : Nat → Prop} {r : List UInt8} {b : Bool} (ha : ArenaAt B A L F w) (hR : RdAt w R A r b) (hF : ¬ F R) (hl : L.length + 10 * r.length ≤ 999999999) (hr : r.length ≤ 1000000) (hf : r.length < f) :
    Calls Tryz.prog 172 #[.pointer (some ⟨R, 0, none⟩), .int .u32 limit] w fun e w' => ∃ (l : List Int) (v : Value) (p : List Ent × List UInt8 × Bool), ReadsTerms (Reads f) limit L r b l p ∧ e = .returned v ∧ w'.ownsRow w.heap.size 34 1 v l.length (idCells l) ∧ Left2 B A R F w L r p w' := by
  obtain ⟨i0, hi, hz0, hz1, hz2⟩ := info_parts info_id
  have hu := u32_any hR hr
  have hu1 := u32P_le r b
  have hu2 := u32P_lt r b
  unfold ReadsTerms
  generalize u32P r b = u at *
  obtain ⟨n, r0, b0⟩ := u
  simp only at *
  have hRl := hR.lt
  have hA0 := Lib.hid ha
  have HT := Lib.hid hT
  have HB := Lib.hid (show L.length + 10 * r0.length ≤ 999999999 ∧ r0.length ≤ 1000000 ∧ r0.length < f by omega)
  have HU := Lib.hid hu1
  have HFF := Lib.hid hF
  clear hT ha hR hl hr hf hu1 hF
  by_cases hn : limit < n
  · simp only [if_pos hn]
    go_enter Tryz.func172, Tryz.ntmps172
    go_wp2_with (first
      | (go_at_call 169
         refine hu.mono ?_
         rintro e w1 ⟨rfl, h1, m1⟩
         have hfl := fail_any h1)
      | (go_at_call 173
         refine hfl.mono ?_
         rintro e w2 ⟨rfl, h2, m2⟩))
    go_ret
    have m3 := m1.trans m2 fun _ h => .inl h
    refine ⟨[], _, (L, [], true), ⟨rfl, rfl⟩, rfl, World.ownsRow_nil _ _ _ _, h2, by show L.length + 10 * 0 ≤ _; omega, Nat.zero_le _, F, hA0.out.moves m3 fun k hk e => HFF.out (e ▸ hk), m3.mono fun k h _ => .inl h, fun k h => .inl h⟩
  · simp only [if_neg hn]
    have hn32 : n ≤ 32 := by omega
    clear hu2
    go_enter Tryz.func172, Tryz.ntmps172
    go_wp2_with (
      go_at_call 169
      refine hu.mono ?_
      rintro e w1 ⟨rfl, h1, m1⟩)
    have a1 : ArenaAt B A L F w1 := hA0.out.moves m1 fun k hk e => HFF.out (e ▸ hk)
    have hst : Left2 B A R F w L r (L, r0, b0) w1 := ⟨h1, by have := HU.out; show L.length + 10 * r0.length ≤ _; omega, HU.out, F, a1, m1.mono fun k h _ => .inl h, fun k h => .inl h⟩
    clear h1 m1 a1 hu
    go_loopw [6, 15] (fun v i wr => ∃ (k : Nat) (l : List Int) (p : List Ent × List UInt8 × Bool) (u : Value), u = v ∧ k ≤ n ∧ i = .int .u32 k ∧ ReadsMany (Reads f) L r0 b0 k l p ∧ l.length = k ∧ p.1.length + 10 * p.2.1.length ≤ L.length + 10 * r0.length ∧ p.2.1.length ≤ r0.length ∧ wr.ownsRow w.heap.size 34 1 u k (idCells l) ∧ Left2 B A R F w L r p wr) (fun _ i _ => n - (intOf i).toNat)
    case atStart => exact ⟨0, [], (L, r0, b0), _, rfl, Nat.zero_le _, rfl, ⟨rfl, rfl⟩, rfl, Nat.le_refl _, Nat.le_refl _, World.ownsRow_nil _ _ _ _, hst⟩
    case round =>
      clear hst
      obtain ⟨k, l, ⟨L1, r1, b1⟩, v, hv0, hk, rfl, hmany, hlk, hle1, hle2, hown, hst⟩ := hrel
      subst hv0
      by_cases hlt : k < n
      · obtain ⟨h1, q1, q2, F1, a1, m1, f1⟩ := hst
        have hF1 : ¬ F1 R := fun h => (f1 R h).elim HFF.out fun h => by omega
        have hb := HB.out
        have hc := HT.out wr L1 F1 r1 b1 a1 h1 hF1 (by show L1.length + 10 * r1.length ≤ _; simp only at hle1; omega) (by simp only at hle2; omega) (by simp only at hle2; omega)
        have hne : ∀ k, v.ownBlock = some k → ¬ (k = R ∨ F1 k) := fun k hk => by
          rintro (rfl | h)
          · exact row_ne hown h1 (by decide) hk.symm
          · exact a1.ne_row hown (by decide) (by decide) k hk h
        have HA1 := Lib.hid a1
        have HQ := Lib.hid (And.intro hle1 (And.intro hle2 (And.intro q1 q2)))
        have HM1 := Lib.hid m1
        have Hf1 := Lib.hid f1
        have HMY := Lib.hid hmany
        have HLK := Lib.hid hlk
        have HF1 := Lib.hid hF1
        clear h1 q1 q2 a1 m1 f1 hF1 hb hle1 hle2 hmany hlk hA0
        go_wp2_with (first
          | (go_at_call 135
             refine hc.mono ?_
             rintro e w2 ⟨⟨id, L2, r2, b2⟩, hq, rfl, h2, s1, s2, F2, a2, m2, f2⟩
             have hown2 := owns_moves hown m2 hne
             have hW2 : w.heap.size ≤ w2.heap.size := Nat.le_trans HM1.out.size m2.size)
          | (at_builtin; refine wpList_append_own _ rfl (.tmp 17) (.tmp 20) 27 rfl w.heap.size 34 i0 _ 1 8 Tryz.underlying27 hi hz0 hz1 hz2 rfl (by decide) _ _ _ rfl (hown2.alloc _) ⟨w2.heap.size, 0, none⟩ 1 1 [.int .i64 id] rfl rfl ?c1 ?c2 ?c3 ?c4 ?c5 ?_))
        case c1 =>
          intro j u hj
          rw [Addr.add_lit, Nat.zero_add, (Holds.new w2 34 #[.int .i64 id]).cell]
          simpa using hj
        case c2 => intro u hu; simp at hu; subst hu; rfl
        case c3 => unfold maxLen; omega
        case c4 => omega
        case c5 => simp; omega
        intro v' w3 hown3 hg3 _
        have m' : Moves (fun k => v.ownBlock = some k) w2 w3 := ((Moves.refl _ w2).alloc _).grown hg3 fun k hk => .inl hk
        have h3 : RdAt w3 R A r2 b2 := Holds.moves h2 m' fun h => row_ne hown2 h2 (by decide) h.symm
        have a3 : ArenaAt B A L2 F2 w3 := a2.moves m' fun k hk h => a2.ne_row hown2 (by decide) (by decide) k h hk
        have m3 : Moves (fun k => k = R ∨ F k) w w3 := (HM1.out.trans m2 fun k h => by
          rcases h with rfl | h
          · exact .inl (.inl rfl)
          · exact (Hf1.out k h).imp_left .inr).trans m' fun k h => .inr (hown2.lt k h).1
        have f3 : ∀ k, F2 k → F k ∨ w.heap.size ≤ k := fun k h => by
          rcases f2 k h with h | h
          · exact Hf1.out k h
          · exact .inr (Nat.le_trans HM1.out.size h)
        have s1' : L2.length + 10 * r2.length ≤ L1.length + 10 * r1.length := s1
        have s2' : r2.length ≤ r1.length := s2
        have HLeft : Hid (Left2 B A R F w L r (L2, r2, b2) w3) := ⟨h3, by have := HQ.out; show L2.length + 10 * r2.length ≤ _; omega, by have := HQ.out; show r2.length ≤ _; omega, F2, a3, m3, f3⟩
        have HMany : Hid (ReadsMany (Reads f) L r0 b0 (k + 1) (l ++ [id]) (L2, r2, b2)) := ⟨l, L1, r1, b1, id, HMY.out, hq, rfl⟩
        have HOwn : Hid (w3.ownsRow w.heap.size 34 1 v' (k + 1) (idCells (l ++ [id]))) := owns_cast hown3 (by simp [idCells])
        have HSum := Lib.hid (And.intro s1' s2')
        clear m' h3 a3 m3 f3 s1' s2' s1 s2 hown3 hg3 hown2 h2 a2 m2 f2 hq hne hown
        go_wp2_with fail
        go_roundw
        case rel =>
          have hq := HQ.out
          have hs := HSum.out
          have hl := HLK.out
          exact ⟨k + 1, l ++ [id], (L2, r2, b2), _, rfl, by omega, by go_num, HMany.out, by simp [hl], by show L2.length + 10 * r2.length ≤ _; omega, by show r2.length ≤ _; omega, HOwn.out, HLeft.out⟩
        case measure => simp [intOf]; omega
      · have hkn : k = n := by omega
        subst hkn
        clear hlt
        have HM := Lib.hid hmany
        have HS := Lib.hid hst
        have HLK := Lib.hid hlk
        clear hmany hst hlk hle1 hle2
        go_wp2_with fail
        go_ret
        exact ⟨l, _, (L1, r1, b1), HM.out, rfl, by rw [HLK.out]; exact hown, HS.out⟩
end Go.Proofs.YtlalkpgipenkaaaGreatDoor

namespace Go.Proofs.YtlalkpgipenkaaaGreatDoor
open Go.RowKit

theorem IdsAt.ofRow {w : World} {base : Nat} {v : Value} {l : List Int} (h : w.ownsRow base 34 1 v l.length (idCells l)) (hn : l = [] → v = .slice none 0 0) : IdsAt w v l := by
  by_cases hl : l = []
  · subst hl
    rw [hn rfl]
    exact IdsAt.nil w
  · have hown := h
    obtain ⟨_, hcase⟩ := h
    rcases hcase with ⟨_, h0⟩ | ⟨g, cap', cur, rfl, hg, hh, hn, hcap, hsz, htake⟩
    · exact absurd (List.length_eq_zero_iff.1 h0) hl
    · refine ⟨some ⟨g, 0, none⟩, cap', rfl, fun _ => ⟨g, 0, rfl, (Array.getElem?_eq_some_iff.1 hh).1, fun k x hk => ?_⟩⟩
      have hk' := (List.getElem?_eq_some_iff.1 hk).1
      rw [Nat.zero_add, hown.cellAt k (by omega)]
      simp [idCells, hk]
theorem IdsAt.below {w w' : World} {v : Value} {l : List Int} (h : IdsAt w v l) (hb : Below w.heap.size w w') : IdsAt w' v l :=
  h.keep hb.size fun _ _ _ _ _ hlt => hb.cell hlt
end Go.Proofs.YtlalkpgipenkaaaGreatDoor

namespace Go.Proofs.YtlalkpgipenkaaaGreatDoor
open Go.RowKit


/-- View of what is no term. -/
theorem gone_row (w : World) : Holds (w.alloc (.cells #[.int .i64 0, .int .i64 0, .int .i64 0, .string ⟨#[]⟩, .slice none 0 0] 60)) w.heap.size 60 #[.int .i64 0, .int .i64 0, .int .i64 0, .string ⟨#[]⟩, .slice none 0 0] := Holds.new w _ _
set_option maxHeartbeats 2000000 in
theorem View_gone {p : Value} {i : Int} {w : World} (hh : ∀ W : World, Below w.heap.size w W → Calls Tryz.prog 35 #[p, .int .i64 i] W fun e w' => e = .returned (.bool false) ∧ W = w') :
    Calls Tryz.prog 24 #[p, .int .i64 i] w fun r w' => r = .returned (.tuple #[noNode, .bool false]) ∧ Below w.heap.size w w' := by
  have HH := Lib.hid (hh _ ((Below.refl _ _).alloc (Nat.le_refl _) (.cells #[.int .i64 0, .int .i64 0, .int .i64 0, .string ⟨#[]⟩, .slice none 0 0] 60)))
  have HN := Lib.hid (gone_row w)
  have HB : Hid (Below w.heap.size w (w.alloc (.cells #[.int .i64 0, .int .i64 0, .int .i64 0, .string ⟨#[]⟩, .slice none 0 0] 60))) := (Below.refl _ _).alloc (Nat.le_refl _) _
  clear hh
  go_enter Tryz.func24, Tryz.ntmps24
  go_wp2_with (go_at_call 35; with_reducible refine HH.out.mono ?_; rintro e w1 ⟨rfl, hw⟩; have hN := HN.out; have hB := HB.out; rw [hw] at hN hB; clear HH HN HB hw; have c0 := hN.cell 0; have c1 := hN.cell 1; have c2 := hN.cell 2; have c3 := hN.cell 3; have c4 := hN.cell 4; have f0 := hN.frozen 0; have f1 := hN.frozen 1; have f2 := hN.frozen 2; have f3 := hN.frozen 3; have f4 := hN.frozen 4)
  have hNf := Holds.set (Holds.set (Holds.set (Holds.set (Holds.set hN 0 (.int .i64 0)) 1 (.int .i64 0)) 2 (.int .i64 0)) 3 (.string ⟨#[]⟩)) 4 (.slice none 0 0)
  refine bodyPost_ret (v := .tuple #[noNode, .bool false]) ?_ rfl ⟨rfl, ?_⟩
  · exact run_cell_tmp rfl _ _ w.heap.size _ _ _ rfl rfl hNf Tryz.underlying60 rfl (by kernel_rfl)
  · exact ((((hB.setCell (p := ⟨w.heap.size, 0, none⟩) (Nat.le_refl _) _).setCell (p := ⟨w.heap.size, 1, none⟩) (Nat.le_refl _) _).setCell (p := ⟨w.heap.size, 2, none⟩) (Nat.le_refl _) _).setCell (p := ⟨w.heap.size, 3, none⟩) (Nat.le_refl _) _).setCell (p := ⟨w.heap.size, 4, none⟩) (Nat.le_refl _) _
theorem View_no {B A : Nat} {L : List Ent} {F : Nat → Prop} {w : World} (ha : ArenaAt B A L F w) (i : Int) (hi : i < 0 ∨ L.length ≤ i) :
    Calls Tryz.prog 24 #[.pointer (some ⟨A, 0, none⟩), .int .i64 i] w fun r w' => r = .returned (.tuple #[noNode, .bool false]) ∧ Below w.heap.size w w' :=
  View_gone fun _ hb => has_no (ha.below hb) i hi
def argsI (e : Ent) : List Int := e.sh.args.map fun (u : Nat) => (u : Int)
theorem argsI_len (e : Ent) : (argsI e).length = e.sh.args.length := by simp [argsI]

/-- View of a term, its arguments cell for cell. -/
theorem view_cells {B A : Nat} {L : List Ent} {F : Nat → Prop} {w : World} (ha : ArenaAt B A L F w) {n : Nat} {e : Ent} (he : L[n]? = some e) :
    Calls Tryz.prog 24 #[.pointer (some ⟨A, 0, none⟩), .int .i64 n] w fun r w' => ∃ g, r = .returned (.tuple #[.agg #[.int .i64 e.sh.kind, .int .i64 e.sh.a, .int .i64 e.sh.b, .string e.sh.s, .slice (some ⟨g, 0, none⟩) (argsI e).length (argsI e).length], .bool true]) ∧
      (argsI e ≠ [] → g < w'.heap.size ∧ ∀ (j : Nat) (i : Int), (argsI e)[j]? = some i → w'.cell? ⟨g, 0 + j, none⟩ = some (.int .i64 i)) ∧ Below w.heap.size w w' :=
  (View_some ha he).mono fun r w' ⟨g, h1, h2, h3⟩ => by
    refine ⟨g, by rw [argsI_len]; exact h1, fun hne => ?_, h3⟩
    have hne' : e.sh.args ≠ [] := fun h => hne (by simp [argsI, h])
    obtain ⟨x, hx⟩ : ∃ x, e.sh.args[0]? = some x := ⟨_, List.getElem?_eq_getElem (List.length_pos_iff.2 hne')⟩
    have h0 := owns_cell h2 hx
    refine ⟨World.block_lt_of_cell? w' _ h0.1, fun j i hj => ?_⟩
    simp only [argsI, List.getElem?_map, Option.map_eq_some_iff] at hj
    obtain ⟨u, hu, rfl⟩ := hj
    rw [Nat.zero_add]
    exact (owns_cell h2 hu).1

end Go.Proofs.YtlalkpgipenkaaaGreatDoor

namespace Go.Proofs.YtlalkpgipenkaaaGreatDoor
open Go.RowKit

end Go.Proofs.YtlalkpgipenkaaaGreatDoor
