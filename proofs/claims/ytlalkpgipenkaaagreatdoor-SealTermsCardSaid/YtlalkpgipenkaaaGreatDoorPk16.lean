/- Part 16 of what the statement wants. -/
import Derived.BigRegion
import Derived.Deep.RegionHeld3
import Derived.Test.YtlalkpgipenkaaaGreatDoorPk15
namespace Go.Proofs.YtlalkpgipenkaaaGreatDoor
open Go.RowKit

/-- Where the reader stands, some steps behind the first byte. -/
structure St (B A R : Nat) (F : Nat → Prop) (w : World) (L : List Ent) (r0 : List UInt8) (w' : World) (L' : List Ent) (F' : Nat → Prop) (r' : List UInt8) (b' : Bool) : Prop where
  rd : RdAt w' R A r' b'
  arena : ArenaAt B A L' F' w'
  moves : Moves (fun k => k = R ∨ F k) w w'
  new : ∀ k, F' k → F k ∨ w.heap.size ≤ k
  few : L'.length + 10 * r'.length ≤ L.length + 10 * r0.length
  le : r'.length ≤ r0.length
theorem St.notF {B A R : Nat} {F : Nat → Prop} {w : World} {L : List Ent} {r0 : List UInt8} {w' : World} {L' : List Ent} {F' : Nat → Prop} {r' : List UInt8} {b' : Bool} (h : St B A R F w L r0 w' L' F' r' b') (hF : ¬ F R) (hR : R < w.heap.size) : ¬ F' R := fun k => (h.new R k).elim hF fun e => by omega
theorem St.read {B A R : Nat} {F : Nat → Prop} {w : World} {L : List Ent} {r0 : List UInt8} {w' : World} {L' : List Ent} {F' : Nat → Prop} {r' : List UInt8} {b' : Bool} (h : St B A R F w L r0 w' L' F' r' b') (hF : ¬ F R) (hR : R < w.heap.size) {w2 : World} {r2 : List UInt8} {b2 : Bool} (h2 : RdAt w2 R A r2 b2) (m : Moves (fun k => k = R) w' w2) (hl : r2.length ≤ r'.length) : St B A R F w L r0 w2 L' F' r2 b2 :=
  ⟨h2, h.arena.moves m fun k hk e => h.notF hF hR (e ▸ hk), h.moves.trans m fun k h => .inl (.inl h), h.new, by have := h.few; omega, by have := h.le; omega⟩
theorem St.term {B A R : Nat} {F : Nat → Prop} {w : World} {L : List Ent} {r0 : List UInt8} {w' : World} {L' : List Ent} {F' : Nat → Prop} {r' : List UInt8} {b' : Bool} (h : St B A R F w L r0 w' L' F' r' b') {w2 : World} {q : List Ent × List UInt8 × Bool} (hq : Left2 B A R F' w' L' r' q w2) : ∃ F2, St B A R F w L r0 w2 q.1 F2 q.2.1 q.2.2 := by
  obtain ⟨a, b, c, F2, d, e, f⟩ := hq
  refine ⟨F2, a, d, h.moves.trans e fun k hk => ?_, fun k hk => ?_, by have := h.few; omega, by have := h.le; omega⟩
  · rcases hk with rfl | hk
    · exact .inl (.inl rfl)
    · exact (h.new k hk).imp_left .inr
  · rcases f k hk with hk | hk
    · exact h.new k hk
    · exact .inr (Nat.le_trans h.moves.size hk)
/-- A constructor at the end. -/
theorem St.made {B A R : Nat} {F : Nat → Prop} {w : World} {L : List Ent} {r0 : List UInt8} {w' : World} {L' : List Ent} {F' : Nat → Prop} {r' : List UInt8} {b' : Bool} (h : St B A R F w L r0 w' L' F' r' b') (hF : ¬ F R) (hR : R < w.heap.size) {r : List UInt8} (hr : r0.length + 1 ≤ r.length) {M : List Ent} (hM : M.length ≤ L'.length + 1) {w2 : World} (hl : Left B A M F' w' w2) : Left2 B A R F w L r (M, r', b') w2 := by
  obtain ⟨F2, d, e, f⟩ := hl
  have hfew := h.few
  have hle := h.le
  refine ⟨h.rd.moves e (h.notF hF hR), by show M.length + 10 * r'.length ≤ _; omega, by show r'.length ≤ _; omega, F2, d, h.moves.trans e fun k hk => (h.new k hk).imp_left .inr, fun k hk => ?_⟩
  rcases f k hk with hk | hk
  · exact h.new k hk
  · exact .inr (Nat.le_trans h.moves.size hk)
section
variable {B A R f : Nat} {F : Nat → Prop} {w : World} {L : List Ent} {r r0 : List UInt8}
/-- One step of the reader: a number, a counted string, a byte, a term. -/
theorem St.u32 {W : World} {L1 : List Ent} {F1 : Nat → Prop} {r1 : List UInt8} {b1 : Bool} (h : St B A R F w L r0 W L1 F1 r1 b1) (hF : ¬ F R) (hRl : R < w.heap.size) (hr : r0.length ≤ 1000000) :
    Calls Tryz.prog 169 #[.pointer (some ⟨R, 0, none⟩)] W fun e w' => ∃ (n : Nat) (r2 : List UInt8) (b2 : Bool), u32P r1 b1 = (n, r2, b2) ∧ n ≤ 4294967295 ∧ e = .returned (.int .u32 n) ∧ St B A R F w L r0 w' L1 F1 r2 b2 := by
  have hle := h.le
  exact (u32_any h.rd (by omega)).mono fun e w' ⟨h1, h2, h3⟩ => ⟨(u32P r1 b1).1, (u32P r1 b1).2.1, (u32P r1 b1).2.2, rfl, u32P_lt r1 b1, h1, h.read hF hRl h2 h3 (u32P_le r1 b1)⟩
theorem cntP_le (r1 : List UInt8) (b1 : Bool) : (cntP r1 b1).2.1.length ≤ r1.length ∧ (cntP r1 b1).1.length ≤ r1.length := by
  have h1 := u32P_le r1 b1
  unfold cntP
  have h2 : ∀ (n : Nat) (l : List UInt8) (b : Bool), (takeP n l b).2.1.length ≤ l.length ∧ (takeP n l b).1.length ≤ l.length := fun n l b => by
    unfold takeP
    split <;> simp <;> omega
  have := h2 (u32P r1 b1).1 (u32P r1 b1).2.1 (u32P r1 b1).2.2
  omega
theorem octetP_le (r1 : List UInt8) (b1 : Bool) : (octetP r1 b1).2.1.length ≤ r1.length ∧ (octetP r1 b1).1 ≤ 255 := by
  unfold octetP
  cases r1 with
  | nil => simp
  | cons x l =>
    have := x.toNat_lt
    cases b1 <;> simp <;> omega
theorem St.cnt {W : World} {L1 : List Ent} {F1 : Nat → Prop} {r1 : List UInt8} {b1 : Bool} (h : St B A R F w L r0 W L1 F1 r1 b1) (hF : ¬ F R) (hRl : R < w.heap.size) (hr : r0.length ≤ 1000000) :
    Calls Tryz.prog 168 #[.pointer (some ⟨R, 0, none⟩)] W fun e w' => ∃ (s : List UInt8) (r2 : List UInt8) (b2 : Bool), cntP r1 b1 = (s, r2, b2) ∧ s.length ≤ 1000000 ∧ e = .returned (.string (bs s)) ∧ St B A R F w L r0 w' L1 F1 r2 b2 := by
  have hle := h.le
  have hc := cntP_le r1 b1
  exact (rcounted_any h.rd (by omega)).mono fun e w' ⟨h1, h2, h3⟩ => ⟨(cntP r1 b1).1, (cntP r1 b1).2.1, (cntP r1 b1).2.2, rfl, by omega, h1, h.read hF hRl h2 h3 hc.1⟩
theorem St.oct {W : World} {L1 : List Ent} {F1 : Nat → Prop} {r1 : List UInt8} {b1 : Bool} (h : St B A R F w L r0 W L1 F1 r1 b1) (hF : ¬ F R) (hRl : R < w.heap.size) (hr : r0.length ≤ 1000000) :
    Calls Tryz.prog 167 #[.pointer (some ⟨R, 0, none⟩)] W fun e w' => ∃ (n : Nat) (r2 : List UInt8) (b2 : Bool), octetP r1 b1 = (n, r2, b2) ∧ n ≤ 255 ∧ e = .returned (.int .u8 n) ∧ St B A R F w L r0 w' L1 F1 r2 b2 := by
  have hle := h.le
  have hc := octetP_le r1 b1
  exact (octet_any h.rd (by omega)).mono fun e w' ⟨h1, h2, h3⟩ => ⟨(octetP r1 b1).1, (octetP r1 b1).2.1, (octetP r1 b1).2.2, rfl, hc.2, h1, h.read hF hRl h2 h3 hc.1⟩
theorem St.sub (hT : TermC B A R f) {W : World} {L1 : List Ent} {F1 : Nat → Prop} {r1 : List UInt8} {b1 : Bool} (h : St B A R F w L r0 W L1 F1 r1 b1) (hF : ¬ F R) (hRl : R < w.heap.size) (hr : r0.length ≤ 1000000) (hl : L.length + 10 * r0.length ≤ 1000000000) (hf : r0.length < f) :
    Calls Tryz.prog 135 #[.pointer (some ⟨R, 0, none⟩)] W fun e w' => ∃ (id : Int) (L2 : List Ent) (r2 : List UInt8) (b2 : Bool) (F2 : Nat → Prop), Reads f L1 r1 b1 (id, L2, r2, b2) ∧ e = .returned (.int .i64 id) ∧ St B A R F w L r0 w' L2 F2 r2 b2 := by
  have h1 := h.few
  have h2 := h.le
  refine (hT W L1 F1 r1 b1 h.arena h.rd (h.notF hF hRl) (by omega) (by omega) (by omega)).mono ?_
  rintro e w' ⟨⟨id, L2, r2, b2⟩, hq, rfl, hl2⟩
  obtain ⟨F2, hs2⟩ := h.term hl2
  exact ⟨id, L2, r2, b2, F2, hq, rfl, hs2⟩
end
theorem dataM_len (L : List Ent) (s : ByteArray) : (dataM L s).2.length ≤ L.length + 1 := built_len _ _ _ _
theorem nonceM_len (L : List Ent) (x y : Int) : (nonceM L x y).2.length ≤ L.length + 1 := by
  unfold nonceM; split
  · exact built_len _ _ _ _
  · exact Nat.le_add_right _ _
theorem keyM_len (L : List Ent) (x : Int) : (keyM L x).2.length ≤ L.length + 1 := by
  unfold keyM; split
  · exact built_len _ _ _ _
  · exact Nat.le_add_right _ _
theorem pubM_len (L : List Ent) (k : Int) : (pubM L k).2.length ≤ L.length + 1 := by
  unfold pubM; split
  · exact built_len _ _ _ _
  · exact Nat.le_add_right _ _
theorem signM_len (L : List Ent) (s : ByteArray) (k t : Int) : (signM L s k t).2.length ≤ L.length + 1 := by
  unfold signM; split
  · exact built_len _ _ _ _
  · exact Nat.le_add_right _ _
theorem hashM_len (L : List Ent) (t : Int) : (hashM L t).2.length ≤ L.length + 1 := built_len _ _ _ _
theorem deriveM_len (L : List Ent) (c : Nat) (x y z : Int) : (deriveM L c x y z).2.length ≤ L.length + 1 := built_len _ _ _ _

set_option maxHeartbeats 4000000 in
set_option maxRecDepth 100000 in
theorem rkind_data {B A R f : Nat} (hT : TermC B A R f) {w : World} {L : List Ent} {F : Nat → Prop} {r r0 : List UInt8} {b b0 : Bool} (ho : octetP r b = (241, r0, b0)) (ha : ArenaAt B A L F w) (hR : RdAt w R A r b) (hF : ¬ F R) (hl : L.length + 10 * r.length ≤ 1000000000) (hr : r.length ≤ 1000000) (hf : r.length < f + 1) (hr0 : r0.length + 1 ≤ r.length) :
    Calls Tryz.prog 135 #[.pointer (some ⟨R, 0, none⟩)] w (RP B A R F w L r (Reads (f + 1) L r b)) := by
  have hoc := octet_any hR hr
  rw [ho] at hoc
  have hRl := hR.lt
  have c0 := hR.cell 0
  have S0 : ∀ w1 : World, RdAt w1 R A r0 b0 → Moves (fun k => k = R) w w1 → St B A R F w L r0 w1 L F r0 b0 := fun w1 h m => ⟨h, ha.moves m fun k hk e => hF (e ▸ hk), m.mono fun k h _ => .inl h, fun k h => .inl h, Nat.le_refl _, Nat.le_refl _⟩
  have HS0 := Lib.hid S0
  have Hcnt := Lib.hid (fun (W : World) (L1 : List Ent) (F1 : Nat → Prop) (r1 : List UInt8) (b1 : Bool) (h : St B A R F w L r0 W L1 F1 r1 b1) => h.cnt hF hRl (by omega))
  have HFin : Hid (∀ (M L2 : List Ent) (F2 : Nat → Prop) (r2 : List UInt8) (b2 : Bool) (W W' : World), St B A R F w L r0 W L2 F2 r2 b2 → M.length ≤ L2.length + 1 → Left B A M F2 W W' → Left2 B A R F w L r (M, r2, b2) W') := fun M L2 F2 r2 b2 W W' hs hM hl => hs.made hF hRl hr0 hM hl
  have HCon : Hid (∀ (W : World) (L1 : List Ent) (F1 : Nat → Prop) (r1 : List UInt8) (b1 : Bool) (v2 : List UInt8) (_ : v2.length ≤ 1000000), St B A R F w L r0 W L1 F1 r1 b1 → Calls Tryz.prog 15 #[.pointer (some ⟨A, 0, none⟩), .string (bs v2)] W fun e w' => e = .returned (.int .i64 (dataM L1 (bs v2)).1) ∧ Left B A (dataM L1 (bs v2)).2 F1 W w') := fun W L1 F1 r1 b1 v2 _ hs => Data_any hs.arena (by have := hs.few; omega) (bs v2) (by rw [bs_size]; omega)
  have HK : Hid (∀ (v2 : List UInt8) (r2 : List UInt8) (b2 : Bool), cntP r0 b0 = (v2, r2, b2) → Reads (f + 1) L r b ((dataM L (bs v2)).1, (dataM L (bs v2)).2, r2, b2)) := by
    show ∀ (v2 : List UInt8) (r2 : List UInt8) (b2 : Bool), cntP r0 b0 = (v2, r2, b2) → Reads (f + 1) L r b ((dataM L (bs v2)).1, (dataM L (bs v2)).2, r2, b2)
    intro v2 r2 b2 e2
    show ReadsKind _ _ _ _ _ _
    rw [ho]
    show ReadsKind (Reads f) 241 L r0 b0 _
    unfold ReadsKind
    rw [if_pos rfl]
    exact by rw [e2]
  clear S0 ho ha hR hT
  simp only at hoc
  go_enter Tryz.func135, Tryz.ntmps135
  go_wp2_with (first
    | (go_at_call 167; with_reducible refine hoc.mono ?_; rintro e w1 ⟨rfl, h1, m1⟩; have s1 := Lib.hid (HS0.out _ h1 m1))
    | (go_at_call 168; with_reducible refine (Hcnt.out _ _ _ _ _ s1.out).mono ?_; rintro e w2 ⟨v2, r2, b2, hq2, hb2, rfl, hs2⟩; have s2 := Lib.hid hs2; have Q2 := Lib.hid hq2; clear hs2 hq2)
    | (go_at_call 15; with_reducible refine (HCon.out _ _ _ _ _ v2 hb2 s2.out).mono ?_; rintro e wz ⟨rfl, hlz⟩))
  go_ret
  exact ⟨((dataM L (bs v2)).1, (dataM L (bs v2)).2, r2, b2), HK.out _ _ _ Q2.out, rfl, HFin.out _ _ _ _ _ _ _ s2.out (dataM_len _ _) hlz⟩

set_option maxHeartbeats 4000000 in
set_option maxRecDepth 100000 in
theorem rkind_nonce {B A R f : Nat} (hT : TermC B A R f) {w : World} {L : List Ent} {F : Nat → Prop} {r r0 : List UInt8} {b b0 : Bool} (ho : octetP r b = (242, r0, b0)) (ha : ArenaAt B A L F w) (hR : RdAt w R A r b) (hF : ¬ F R) (hl : L.length + 10 * r.length ≤ 1000000000) (hr : r.length ≤ 1000000) (hf : r.length < f + 1) (hr0 : r0.length + 1 ≤ r.length) :
    Calls Tryz.prog 135 #[.pointer (some ⟨R, 0, none⟩)] w (RP B A R F w L r (Reads (f + 1) L r b)) := by
  have hoc := octet_any hR hr
  rw [ho] at hoc
  have hRl := hR.lt
  have c0 := hR.cell 0
  have S0 : ∀ w1 : World, RdAt w1 R A r0 b0 → Moves (fun k => k = R) w w1 → St B A R F w L r0 w1 L F r0 b0 := fun w1 h m => ⟨h, ha.moves m fun k hk e => hF (e ▸ hk), m.mono fun k h _ => .inl h, fun k h => .inl h, Nat.le_refl _, Nat.le_refl _⟩
  have HS0 := Lib.hid S0
  have Hu32 := Lib.hid (fun (W : World) (L1 : List Ent) (F1 : Nat → Prop) (r1 : List UInt8) (b1 : Bool) (h : St B A R F w L r0 W L1 F1 r1 b1) => h.u32 hF hRl (by omega))
  have HFin : Hid (∀ (M L2 : List Ent) (F2 : Nat → Prop) (r2 : List UInt8) (b2 : Bool) (W W' : World), St B A R F w L r0 W L2 F2 r2 b2 → M.length ≤ L2.length + 1 → Left B A M F2 W W' → Left2 B A R F w L r (M, r2, b2) W') := fun M L2 F2 r2 b2 W W' hs hM hl => hs.made hF hRl hr0 hM hl
  have HCon : Hid (∀ (W : World) (L1 : List Ent) (F1 : Nat → Prop) (r1 : List UInt8) (b1 : Bool) (v2 : Nat) (v3 : Nat), St B A R F w L r0 W L1 F1 r1 b1 → Calls Tryz.prog 48 #[.pointer (some ⟨A, 0, none⟩), .int .i64 (v2 : Int), .int .i64 (v3 : Int)] W fun e w' => e = .returned (.int .i64 (nonceM L1 (v2 : Int) (v3 : Int)).1) ∧ Left B A (nonceM L1 (v2 : Int) (v3 : Int)).2 F1 W w') := fun W L1 F1 r1 b1 v2 v3 hs => Nonce_any hs.arena (by have := hs.few; omega) (v2 : Int) (v3 : Int)
  have HK : Hid (∀ (v2 : Nat) (r2 : List UInt8) (b2 : Bool) (v3 : Nat) (r3 : List UInt8) (b3 : Bool), u32P r0 b0 = (v2, r2, b2) → u32P r2 b2 = (v3, r3, b3) → Reads (f + 1) L r b ((nonceM L (v2 : Int) (v3 : Int)).1, (nonceM L (v2 : Int) (v3 : Int)).2, r3, b3)) := by
    show ∀ (v2 : Nat) (r2 : List UInt8) (b2 : Bool) (v3 : Nat) (r3 : List UInt8) (b3 : Bool), u32P r0 b0 = (v2, r2, b2) → u32P r2 b2 = (v3, r3, b3) → Reads (f + 1) L r b ((nonceM L (v2 : Int) (v3 : Int)).1, (nonceM L (v2 : Int) (v3 : Int)).2, r3, b3)
    intro v2 r2 b2 v3 r3 b3 e2 e3
    show ReadsKind _ _ _ _ _ _
    rw [ho]
    show ReadsKind (Reads f) 242 L r0 b0 _
    unfold ReadsKind
    rw [if_neg (by decide)]
    rw [if_pos rfl]
    exact ⟨u32P r2 b2, by rw [e2], by rw [e2, e3]⟩
  clear S0 ho ha hR hT
  simp only at hoc
  go_enter Tryz.func135, Tryz.ntmps135
  go_wp2_with (first
    | (go_at_call 167; with_reducible refine hoc.mono ?_; rintro e w1 ⟨rfl, h1, m1⟩; have s1 := Lib.hid (HS0.out _ h1 m1))
    | (go_at_call 169; with_reducible refine (Hu32.out _ _ _ _ _ s1.out).mono ?_; rintro e w2 ⟨v2, r2, b2, hq2, hb2, rfl, hs2⟩; have s2 := Lib.hid hs2; have Q2 := Lib.hid hq2; clear hs2 hq2)
    | (go_at_call 169; with_reducible refine (Hu32.out _ _ _ _ _ s2.out).mono ?_; rintro e w3 ⟨v3, r3, b3, hq3, hb3, rfl, hs3⟩; have s3 := Lib.hid hs3; have Q3 := Lib.hid hq3; clear hs3 hq3)
    | (go_at_call 48; with_reducible refine (HCon.out _ _ _ _ _ v2 v3 s3.out).mono ?_; rintro e wz ⟨rfl, hlz⟩))
  go_ret
  exact ⟨((nonceM L (v2 : Int) (v3 : Int)).1, (nonceM L (v2 : Int) (v3 : Int)).2, r3, b3), HK.out _ _ _ _ _ _ Q2.out Q3.out, rfl, HFin.out _ _ _ _ _ _ _ s3.out (nonceM_len _ _ _) hlz⟩

set_option maxHeartbeats 4000000 in
set_option maxRecDepth 100000 in
theorem rkind_key {B A R f : Nat} (hT : TermC B A R f) {w : World} {L : List Ent} {F : Nat → Prop} {r r0 : List UInt8} {b b0 : Bool} (ho : octetP r b = (243, r0, b0)) (ha : ArenaAt B A L F w) (hR : RdAt w R A r b) (hF : ¬ F R) (hl : L.length + 10 * r.length ≤ 1000000000) (hr : r.length ≤ 1000000) (hf : r.length < f + 1) (hr0 : r0.length + 1 ≤ r.length) :
    Calls Tryz.prog 135 #[.pointer (some ⟨R, 0, none⟩)] w (RP B A R F w L r (Reads (f + 1) L r b)) := by
  have hoc := octet_any hR hr
  rw [ho] at hoc
  have hRl := hR.lt
  have c0 := hR.cell 0
  have S0 : ∀ w1 : World, RdAt w1 R A r0 b0 → Moves (fun k => k = R) w w1 → St B A R F w L r0 w1 L F r0 b0 := fun w1 h m => ⟨h, ha.moves m fun k hk e => hF (e ▸ hk), m.mono fun k h _ => .inl h, fun k h => .inl h, Nat.le_refl _, Nat.le_refl _⟩
  have HS0 := Lib.hid S0
  have Hu32 := Lib.hid (fun (W : World) (L1 : List Ent) (F1 : Nat → Prop) (r1 : List UInt8) (b1 : Bool) (h : St B A R F w L r0 W L1 F1 r1 b1) => h.u32 hF hRl (by omega))
  have HFin : Hid (∀ (M L2 : List Ent) (F2 : Nat → Prop) (r2 : List UInt8) (b2 : Bool) (W W' : World), St B A R F w L r0 W L2 F2 r2 b2 → M.length ≤ L2.length + 1 → Left B A M F2 W W' → Left2 B A R F w L r (M, r2, b2) W') := fun M L2 F2 r2 b2 W W' hs hM hl => hs.made hF hRl hr0 hM hl
  have HCon : Hid (∀ (W : World) (L1 : List Ent) (F1 : Nat → Prop) (r1 : List UInt8) (b1 : Bool) (v2 : Nat), St B A R F w L r0 W L1 F1 r1 b1 → Calls Tryz.prog 38 #[.pointer (some ⟨A, 0, none⟩), .int .i64 (v2 : Int)] W fun e w' => e = .returned (.int .i64 (keyM L1 (v2 : Int)).1) ∧ Left B A (keyM L1 (v2 : Int)).2 F1 W w') := fun W L1 F1 r1 b1 v2 hs => Key_any hs.arena (by have := hs.few; omega) (v2 : Int)
  have HK : Hid (∀ (v2 : Nat) (r2 : List UInt8) (b2 : Bool), u32P r0 b0 = (v2, r2, b2) → Reads (f + 1) L r b ((keyM L (v2 : Int)).1, (keyM L (v2 : Int)).2, r2, b2)) := by
    show ∀ (v2 : Nat) (r2 : List UInt8) (b2 : Bool), u32P r0 b0 = (v2, r2, b2) → Reads (f + 1) L r b ((keyM L (v2 : Int)).1, (keyM L (v2 : Int)).2, r2, b2)
    intro v2 r2 b2 e2
    show ReadsKind _ _ _ _ _ _
    rw [ho]
    show ReadsKind (Reads f) 243 L r0 b0 _
    unfold ReadsKind
    rw [if_neg (by decide)]
    rw [if_neg (by decide)]
    rw [if_pos rfl]
    exact by rw [e2]
  clear S0 ho ha hR hT
  simp only at hoc
  go_enter Tryz.func135, Tryz.ntmps135
  go_wp2_with (first
    | (go_at_call 167; with_reducible refine hoc.mono ?_; rintro e w1 ⟨rfl, h1, m1⟩; have s1 := Lib.hid (HS0.out _ h1 m1))
    | (go_at_call 169; with_reducible refine (Hu32.out _ _ _ _ _ s1.out).mono ?_; rintro e w2 ⟨v2, r2, b2, hq2, hb2, rfl, hs2⟩; have s2 := Lib.hid hs2; have Q2 := Lib.hid hq2; clear hs2 hq2)
    | (go_at_call 38; with_reducible refine (HCon.out _ _ _ _ _ v2 s2.out).mono ?_; rintro e wz ⟨rfl, hlz⟩))
  go_ret
  exact ⟨((keyM L (v2 : Int)).1, (keyM L (v2 : Int)).2, r2, b2), HK.out _ _ _ Q2.out, rfl, HFin.out _ _ _ _ _ _ _ s2.out (keyM_len _ _) hlz⟩

set_option maxHeartbeats 4000000 in
set_option maxRecDepth 100000 in
theorem rkind_pub {B A R f : Nat} (hT : TermC B A R f) {w : World} {L : List Ent} {F : Nat → Prop} {r r0 : List UInt8} {b b0 : Bool} (ho : octetP r b = (244, r0, b0)) (ha : ArenaAt B A L F w) (hR : RdAt w R A r b) (hF : ¬ F R) (hl : L.length + 10 * r.length ≤ 1000000000) (hr : r.length ≤ 1000000) (hf : r.length < f + 1) (hr0 : r0.length + 1 ≤ r.length) :
    Calls Tryz.prog 135 #[.pointer (some ⟨R, 0, none⟩)] w (RP B A R F w L r (Reads (f + 1) L r b)) := by
  have hoc := octet_any hR hr
  rw [ho] at hoc
  have hRl := hR.lt
  have c0 := hR.cell 0
  have S0 : ∀ w1 : World, RdAt w1 R A r0 b0 → Moves (fun k => k = R) w w1 → St B A R F w L r0 w1 L F r0 b0 := fun w1 h m => ⟨h, ha.moves m fun k hk e => hF (e ▸ hk), m.mono fun k h _ => .inl h, fun k h => .inl h, Nat.le_refl _, Nat.le_refl _⟩
  have HS0 := Lib.hid S0
  have HTC := Lib.hid (fun (W : World) (L1 : List Ent) (F1 : Nat → Prop) (r1 : List UInt8) (b1 : Bool) (h : St B A R F w L r0 W L1 F1 r1 b1) => h.sub hT hF hRl (by omega) (by omega) (by omega))
  have HFin : Hid (∀ (M L2 : List Ent) (F2 : Nat → Prop) (r2 : List UInt8) (b2 : Bool) (W W' : World), St B A R F w L r0 W L2 F2 r2 b2 → M.length ≤ L2.length + 1 → Left B A M F2 W W' → Left2 B A R F w L r (M, r2, b2) W') := fun M L2 F2 r2 b2 W W' hs hM hl => hs.made hF hRl hr0 hM hl
  have HCon : Hid (∀ (W : World) (L1 : List Ent) (F1 : Nat → Prop) (r1 : List UInt8) (b1 : Bool) (v2 : Int), St B A R F w L r0 W L1 F1 r1 b1 → Calls Tryz.prog 49 #[.pointer (some ⟨A, 0, none⟩), .int .i64 v2] W fun e w' => e = .returned (.int .i64 (pubM L1 v2).1) ∧ Left B A (pubM L1 v2).2 F1 W w') := fun W L1 F1 r1 b1 v2 hs => Pub_any hs.arena (by have := hs.few; omega) (v2 : Int)
  have HK : Hid (∀ (v2 : Int)(L2 : List Ent) (r2 : List UInt8) (b2 : Bool), Reads f L r0 b0 (v2, L2, r2, b2) → Reads (f + 1) L r b ((pubM L2 v2).1, (pubM L2 v2).2, r2, b2)) := by
    show ∀ (v2 : Int)(L2 : List Ent) (r2 : List UInt8) (b2 : Bool), Reads f L r0 b0 (v2, L2, r2, b2) → Reads (f + 1) L r b ((pubM L2 v2).1, (pubM L2 v2).2, r2, b2)
    intro v2 L2 r2 b2 e2
    show ReadsKind _ _ _ _ _ _
    rw [ho]
    show ReadsKind (Reads f) 244 L r0 b0 _
    unfold ReadsKind
    rw [if_neg (by decide)]
    rw [if_neg (by decide)]
    rw [if_neg (by decide)]
    rw [if_pos rfl]
    exact ⟨v2, L2, (r2, b2), e2, rfl⟩
  clear S0 ho ha hR hT
  simp only at hoc
  go_enter Tryz.func135, Tryz.ntmps135
  go_wp2_with (first
    | (go_at_call 167; with_reducible refine hoc.mono ?_; rintro e w1 ⟨rfl, h1, m1⟩; have s1 := Lib.hid (HS0.out _ h1 m1))
    | (go_at_call 135; with_reducible refine (HTC.out _ _ _ _ _ s1.out).mono ?_; rintro e w2 ⟨v2, L2, r2, b2, F2, hq2, rfl, hs2⟩; have s2 := Lib.hid hs2; have Q2 := Lib.hid hq2; clear hs2 hq2)
    | (go_at_call 49; with_reducible refine (HCon.out _ _ _ _ _ v2 s2.out).mono ?_; rintro e wz ⟨rfl, hlz⟩))
  go_ret
  exact ⟨((pubM L2 v2).1, (pubM L2 v2).2, r2, b2), HK.out _ _ _ _ Q2.out, rfl, HFin.out _ _ _ _ _ _ _ s2.out (pubM_len _ _) hlz⟩

set_option maxHeartbeats 4000000 in
set_option maxRecDepth 100000 in
theorem rkind_sign {B A R f : Nat} (hT : TermC B A R f) {w : World} {L : List Ent} {F : Nat → Prop} {r r0 : List UInt8} {b b0 : Bool} (ho : octetP r b = (246, r0, b0)) (ha : ArenaAt B A L F w) (hR : RdAt w R A r b) (hF : ¬ F R) (hl : L.length + 10 * r.length ≤ 1000000000) (hr : r.length ≤ 1000000) (hf : r.length < f + 1) (hr0 : r0.length + 1 ≤ r.length) :
    Calls Tryz.prog 135 #[.pointer (some ⟨R, 0, none⟩)] w (RP B A R F w L r (Reads (f + 1) L r b)) := by
  have hoc := octet_any hR hr
  rw [ho] at hoc
  have hRl := hR.lt
  have c0 := hR.cell 0
  have S0 : ∀ w1 : World, RdAt w1 R A r0 b0 → Moves (fun k => k = R) w w1 → St B A R F w L r0 w1 L F r0 b0 := fun w1 h m => ⟨h, ha.moves m fun k hk e => hF (e ▸ hk), m.mono fun k h _ => .inl h, fun k h => .inl h, Nat.le_refl _, Nat.le_refl _⟩
  have HS0 := Lib.hid S0
  have HTC := Lib.hid (fun (W : World) (L1 : List Ent) (F1 : Nat → Prop) (r1 : List UInt8) (b1 : Bool) (h : St B A R F w L r0 W L1 F1 r1 b1) => h.sub hT hF hRl (by omega) (by omega) (by omega))
  have Hcnt := Lib.hid (fun (W : World) (L1 : List Ent) (F1 : Nat → Prop) (r1 : List UInt8) (b1 : Bool) (h : St B A R F w L r0 W L1 F1 r1 b1) => h.cnt hF hRl (by omega))
  have HFin : Hid (∀ (M L2 : List Ent) (F2 : Nat → Prop) (r2 : List UInt8) (b2 : Bool) (W W' : World), St B A R F w L r0 W L2 F2 r2 b2 → M.length ≤ L2.length + 1 → Left B A M F2 W W' → Left2 B A R F w L r (M, r2, b2) W') := fun M L2 F2 r2 b2 W W' hs hM hl => hs.made hF hRl hr0 hM hl
  have HCon : Hid (∀ (W : World) (L1 : List Ent) (F1 : Nat → Prop) (r1 : List UInt8) (b1 : Bool) (v2 : List UInt8) (_ : v2.length ≤ 1000000) (v3 : Int) (v4 : Int), St B A R F w L r0 W L1 F1 r1 b1 → Calls Tryz.prog 52 #[.pointer (some ⟨A, 0, none⟩), .string (bs v2), .int .i64 v3, .int .i64 v4] W fun e w' => e = .returned (.int .i64 (signM L1 (bs v2) v3 v4).1) ∧ Left B A (signM L1 (bs v2) v3 v4).2 F1 W w') := fun W L1 F1 r1 b1 v2 _ v3 v4 hs => Sign_any hs.arena (by have := hs.few; omega) (bs v2) (by rw [bs_size]; omega) v3 v4
  have HK : Hid (∀ (v2 : List UInt8) (r2 : List UInt8) (b2 : Bool) (v3 : Int)(L3 : List Ent) (r3 : List UInt8) (b3 : Bool) (v4 : Int)(L4 : List Ent) (r4 : List UInt8) (b4 : Bool), cntP r0 b0 = (v2, r2, b2) → Reads f L r2 b2 (v3, L3, r3, b3) → Reads f L3 r3 b3 (v4, L4, r4, b4) → Reads (f + 1) L r b ((signM L4 (bs v2) v3 v4).1, (signM L4 (bs v2) v3 v4).2, r4, b4)) := by
    show ∀ (v2 : List UInt8) (r2 : List UInt8) (b2 : Bool) (v3 : Int)(L3 : List Ent) (r3 : List UInt8) (b3 : Bool) (v4 : Int)(L4 : List Ent) (r4 : List UInt8) (b4 : Bool), cntP r0 b0 = (v2, r2, b2) → Reads f L r2 b2 (v3, L3, r3, b3) → Reads f L3 r3 b3 (v4, L4, r4, b4) → Reads (f + 1) L r b ((signM L4 (bs v2) v3 v4).1, (signM L4 (bs v2) v3 v4).2, r4, b4)
    intro v2 r2 b2 v3 L3 r3 b3 v4 L4 r4 b4 e2 e3 e4
    show ReadsKind _ _ _ _ _ _
    rw [ho]
    show ReadsKind (Reads f) 246 L r0 b0 _
    unfold ReadsKind
    rw [if_neg (by decide)]
    rw [if_neg (by decide)]
    rw [if_neg (by decide)]
    rw [if_neg (by decide)]
    rw [if_neg (by decide)]
    rw [if_pos rfl]
    exact ⟨v3, L3, r3, b3, v4, L4, (r4, b4), by rw [e2]; exact e3, e4, by rw [e2]⟩
  clear S0 ho ha hR hT
  simp only at hoc
  go_enter Tryz.func135, Tryz.ntmps135
  go_wp2_with (first
    | (go_at_call 167; with_reducible refine hoc.mono ?_; rintro e w1 ⟨rfl, h1, m1⟩; have s1 := Lib.hid (HS0.out _ h1 m1))
    | (go_at_call 168; with_reducible refine (Hcnt.out _ _ _ _ _ s1.out).mono ?_; rintro e w2 ⟨v2, r2, b2, hq2, hb2, rfl, hs2⟩; have s2 := Lib.hid hs2; have Q2 := Lib.hid hq2; clear hs2 hq2)
    | (go_at_call 135; with_reducible refine (HTC.out _ _ _ _ _ s2.out).mono ?_; rintro e w3 ⟨v3, L3, r3, b3, F3, hq3, rfl, hs3⟩; have s3 := Lib.hid hs3; have Q3 := Lib.hid hq3; clear hs3 hq3)
    | (go_at_call 135; with_reducible refine (HTC.out _ _ _ _ _ s3.out).mono ?_; rintro e w4 ⟨v4, L4, r4, b4, F4, hq4, rfl, hs4⟩; have s4 := Lib.hid hs4; have Q4 := Lib.hid hq4; clear hs4 hq4)
    | (go_at_call 52; with_reducible refine (HCon.out _ _ _ _ _ v2 hb2 v3 v4 s4.out).mono ?_; rintro e wz ⟨rfl, hlz⟩))
  go_ret
  exact ⟨((signM L4 (bs v2) v3 v4).1, (signM L4 (bs v2) v3 v4).2, r4, b4), HK.out _ _ _ _ _ _ _ _ _ _ _ Q2.out Q3.out Q4.out, rfl, HFin.out _ _ _ _ _ _ _ s4.out (signM_len _ _ _ _) hlz⟩

set_option maxHeartbeats 4000000 in
set_option maxRecDepth 100000 in
theorem rkind_hash {B A R f : Nat} (hT : TermC B A R f) {w : World} {L : List Ent} {F : Nat → Prop} {r r0 : List UInt8} {b b0 : Bool} (ho : octetP r b = (247, r0, b0)) (ha : ArenaAt B A L F w) (hR : RdAt w R A r b) (hF : ¬ F R) (hl : L.length + 10 * r.length ≤ 1000000000) (hr : r.length ≤ 1000000) (hf : r.length < f + 1) (hr0 : r0.length + 1 ≤ r.length) :
    Calls Tryz.prog 135 #[.pointer (some ⟨R, 0, none⟩)] w (RP B A R F w L r (Reads (f + 1) L r b)) := by
  have hoc := octet_any hR hr
  rw [ho] at hoc
  have hRl := hR.lt
  have c0 := hR.cell 0
  have S0 : ∀ w1 : World, RdAt w1 R A r0 b0 → Moves (fun k => k = R) w w1 → St B A R F w L r0 w1 L F r0 b0 := fun w1 h m => ⟨h, ha.moves m fun k hk e => hF (e ▸ hk), m.mono fun k h _ => .inl h, fun k h => .inl h, Nat.le_refl _, Nat.le_refl _⟩
  have HS0 := Lib.hid S0
  have HTC := Lib.hid (fun (W : World) (L1 : List Ent) (F1 : Nat → Prop) (r1 : List UInt8) (b1 : Bool) (h : St B A R F w L r0 W L1 F1 r1 b1) => h.sub hT hF hRl (by omega) (by omega) (by omega))
  have HFin : Hid (∀ (M L2 : List Ent) (F2 : Nat → Prop) (r2 : List UInt8) (b2 : Bool) (W W' : World), St B A R F w L r0 W L2 F2 r2 b2 → M.length ≤ L2.length + 1 → Left B A M F2 W W' → Left2 B A R F w L r (M, r2, b2) W') := fun M L2 F2 r2 b2 W W' hs hM hl => hs.made hF hRl hr0 hM hl
  have HCon : Hid (∀ (W : World) (L1 : List Ent) (F1 : Nat → Prop) (r1 : List UInt8) (b1 : Bool) (v2 : Int), St B A R F w L r0 W L1 F1 r1 b1 → Calls Tryz.prog 53 #[.pointer (some ⟨A, 0, none⟩), .int .i64 v2] W fun e w' => e = .returned (.int .i64 (hashM L1 v2).1) ∧ Left B A (hashM L1 v2).2 F1 W w') := fun W L1 F1 r1 b1 v2 hs => Hash_any hs.arena (by have := hs.few; omega) (v2 : Int)
  have HK : Hid (∀ (v2 : Int)(L2 : List Ent) (r2 : List UInt8) (b2 : Bool), Reads f L r0 b0 (v2, L2, r2, b2) → Reads (f + 1) L r b ((hashM L2 v2).1, (hashM L2 v2).2, r2, b2)) := by
    show ∀ (v2 : Int)(L2 : List Ent) (r2 : List UInt8) (b2 : Bool), Reads f L r0 b0 (v2, L2, r2, b2) → Reads (f + 1) L r b ((hashM L2 v2).1, (hashM L2 v2).2, r2, b2)
    intro v2 L2 r2 b2 e2
    show ReadsKind _ _ _ _ _ _
    rw [ho]
    show ReadsKind (Reads f) 247 L r0 b0 _
    unfold ReadsKind
    rw [if_neg (by decide)]
    rw [if_neg (by decide)]
    rw [if_neg (by decide)]
    rw [if_neg (by decide)]
    rw [if_neg (by decide)]
    rw [if_neg (by decide)]
    rw [if_pos rfl]
    exact ⟨v2, L2, (r2, b2), e2, rfl⟩
  clear S0 ho ha hR hT
  simp only at hoc
  go_enter Tryz.func135, Tryz.ntmps135
  go_wp2_with (first
    | (go_at_call 167; with_reducible refine hoc.mono ?_; rintro e w1 ⟨rfl, h1, m1⟩; have s1 := Lib.hid (HS0.out _ h1 m1))
    | (go_at_call 135; with_reducible refine (HTC.out _ _ _ _ _ s1.out).mono ?_; rintro e w2 ⟨v2, L2, r2, b2, F2, hq2, rfl, hs2⟩; have s2 := Lib.hid hs2; have Q2 := Lib.hid hq2; clear hs2 hq2)
    | (go_at_call 53; with_reducible refine (HCon.out _ _ _ _ _ v2 s2.out).mono ?_; rintro e wz ⟨rfl, hlz⟩))
  go_ret
  exact ⟨((hashM L2 v2).1, (hashM L2 v2).2, r2, b2), HK.out _ _ _ _ Q2.out, rfl, HFin.out _ _ _ _ _ _ _ s2.out (hashM_len _ _) hlz⟩

set_option maxHeartbeats 4000000 in
set_option maxRecDepth 100000 in
theorem rkind_derive {B A R f : Nat} (hT : TermC B A R f) {w : World} {L : List Ent} {F : Nat → Prop} {r r0 : List UInt8} {b b0 : Bool} (ho : octetP r b = (248, r0, b0)) (ha : ArenaAt B A L F w) (hR : RdAt w R A r b) (hF : ¬ F R) (hl : L.length + 10 * r.length ≤ 1000000000) (hr : r.length ≤ 1000000) (hf : r.length < f + 1) (hr0 : r0.length + 1 ≤ r.length) :
    Calls Tryz.prog 135 #[.pointer (some ⟨R, 0, none⟩)] w (RP B A R F w L r (Reads (f + 1) L r b)) := by
  have hoc := octet_any hR hr
  rw [ho] at hoc
  have hRl := hR.lt
  have c0 := hR.cell 0
  have S0 : ∀ w1 : World, RdAt w1 R A r0 b0 → Moves (fun k => k = R) w w1 → St B A R F w L r0 w1 L F r0 b0 := fun w1 h m => ⟨h, ha.moves m fun k hk e => hF (e ▸ hk), m.mono fun k h _ => .inl h, fun k h => .inl h, Nat.le_refl _, Nat.le_refl _⟩
  have HS0 := Lib.hid S0
  have HTC := Lib.hid (fun (W : World) (L1 : List Ent) (F1 : Nat → Prop) (r1 : List UInt8) (b1 : Bool) (h : St B A R F w L r0 W L1 F1 r1 b1) => h.sub hT hF hRl (by omega) (by omega) (by omega))
  have Hoct := Lib.hid (fun (W : World) (L1 : List Ent) (F1 : Nat → Prop) (r1 : List UInt8) (b1 : Bool) (h : St B A R F w L r0 W L1 F1 r1 b1) => h.oct hF hRl (by omega))
  have HFin : Hid (∀ (M L2 : List Ent) (F2 : Nat → Prop) (r2 : List UInt8) (b2 : Bool) (W W' : World), St B A R F w L r0 W L2 F2 r2 b2 → M.length ≤ L2.length + 1 → Left B A M F2 W W' → Left2 B A R F w L r (M, r2, b2) W') := fun M L2 F2 r2 b2 W W' hs hM hl => hs.made hF hRl hr0 hM hl
  have HCon : Hid (∀ (W : World) (L1 : List Ent) (F1 : Nat → Prop) (r1 : List UInt8) (b1 : Bool) (v2 : Nat) (_ : v2 ≤ 255) (v3 : Int) (v4 : Int) (v5 : Int), St B A R F w L r0 W L1 F1 r1 b1 → Calls Tryz.prog 54 #[.pointer (some ⟨A, 0, none⟩), .int .u8 (v2 : Int), .int .i64 v3, .int .i64 v4, .int .i64 v5] W fun e w' => e = .returned (.int .i64 (deriveM L1 v2 v3 v4 v5).1) ∧ Left B A (deriveM L1 v2 v3 v4 v5).2 F1 W w') := fun W L1 F1 r1 b1 v2 _ v3 v4 v5 hs => Derive_any hs.arena (by have := hs.few; omega) v2 (by omega) v3 v4 v5
  have HK : Hid (∀ (v2 : Nat) (r2 : List UInt8) (b2 : Bool) (v3 : Int)(L3 : List Ent) (r3 : List UInt8) (b3 : Bool) (v4 : Int)(L4 : List Ent) (r4 : List UInt8) (b4 : Bool) (v5 : Int)(L5 : List Ent) (r5 : List UInt8) (b5 : Bool), octetP r0 b0 = (v2, r2, b2) → Reads f L r2 b2 (v3, L3, r3, b3) → Reads f L3 r3 b3 (v4, L4, r4, b4) → Reads f L4 r4 b4 (v5, L5, r5, b5) → Reads (f + 1) L r b ((deriveM L5 v2 v3 v4 v5).1, (deriveM L5 v2 v3 v4 v5).2, r5, b5)) := by
    show ∀ (v2 : Nat) (r2 : List UInt8) (b2 : Bool) (v3 : Int)(L3 : List Ent) (r3 : List UInt8) (b3 : Bool) (v4 : Int)(L4 : List Ent) (r4 : List UInt8) (b4 : Bool) (v5 : Int)(L5 : List Ent) (r5 : List UInt8) (b5 : Bool), octetP r0 b0 = (v2, r2, b2) → Reads f L r2 b2 (v3, L3, r3, b3) → Reads f L3 r3 b3 (v4, L4, r4, b4) → Reads f L4 r4 b4 (v5, L5, r5, b5) → Reads (f + 1) L r b ((deriveM L5 v2 v3 v4 v5).1, (deriveM L5 v2 v3 v4 v5).2, r5, b5)
    intro v2 r2 b2 v3 L3 r3 b3 v4 L4 r4 b4 v5 L5 r5 b5 e2 e3 e4 e5
    show ReadsKind _ _ _ _ _ _
    rw [ho]
    show ReadsKind (Reads f) 248 L r0 b0 _
    unfold ReadsKind
    rw [if_neg (by decide)]
    rw [if_neg (by decide)]
    rw [if_neg (by decide)]
    rw [if_neg (by decide)]
    rw [if_neg (by decide)]
    rw [if_neg (by decide)]
    rw [if_neg (by decide)]
    rw [if_pos rfl]
    exact ⟨v3, L3, r3, b3, v4, L4, r4, b4, v5, L5, (r5, b5), by rw [e2]; exact e3, e4, e5, by rw [e2]⟩
  clear S0 ho ha hR hT
  simp only at hoc
  go_enter Tryz.func135, Tryz.ntmps135
  go_wp2_with (first
    | (go_at_call 167; with_reducible refine hoc.mono ?_; rintro e w1 ⟨rfl, h1, m1⟩; have s1 := Lib.hid (HS0.out _ h1 m1))
    | (go_at_call 167; with_reducible refine (Hoct.out _ _ _ _ _ s1.out).mono ?_; rintro e w2 ⟨v2, r2, b2, hq2, hb2, rfl, hs2⟩; have s2 := Lib.hid hs2; have Q2 := Lib.hid hq2; clear hs2 hq2)
    | (go_at_call 135; with_reducible refine (HTC.out _ _ _ _ _ s2.out).mono ?_; rintro e w3 ⟨v3, L3, r3, b3, F3, hq3, rfl, hs3⟩; have s3 := Lib.hid hs3; have Q3 := Lib.hid hq3; clear hs3 hq3)
    | (go_at_call 135; with_reducible refine (HTC.out _ _ _ _ _ s3.out).mono ?_; rintro e w4 ⟨v4, L4, r4, b4, F4, hq4, rfl, hs4⟩; have s4 := Lib.hid hs4; have Q4 := Lib.hid hq4; clear hs4 hq4)
    | (go_at_call 135; with_reducible refine (HTC.out _ _ _ _ _ s4.out).mono ?_; rintro e w5 ⟨v5, L5, r5, b5, F5, hq5, rfl, hs5⟩; have s5 := Lib.hid hs5; have Q5 := Lib.hid hq5; clear hs5 hq5)
    | (go_at_call 54; with_reducible refine (HCon.out _ _ _ _ _ v2 hb2 v3 v4 v5 s5.out).mono ?_; rintro e wz ⟨rfl, hlz⟩))
  go_ret
  exact ⟨((deriveM L5 v2 v3 v4 v5).1, (deriveM L5 v2 v3 v4 v5).2, r5, b5), HK.out _ _ _ _ _ _ _ _ _ _ _ _ _ _ _ Q2.out Q3.out Q4.out Q5.out, rfl, HFin.out _ _ _ _ _ _ _ s5.out (deriveM_len _ _ _ _ _) hlz⟩
end Go.Proofs.YtlalkpgipenkaaaGreatDoor

namespace Go.Proofs.YtlalkpgipenkaaaGreatDoor
open Go.RowKit

theorem sealM_len (L : List Ent) (k : Int) (n : Nat) (t : Int) : (sealM L k n t).2.length ≤ L.length + 1 := built_len _ _ _ _
theorem listM_len (L : List Ent) (l : List Int) : (listM L l).2.length ≤ L.length + 1 := by
  unfold listM; split
  · exact built_len _ _ _ _
  · exact Nat.le_add_right _ _
theorem readsMany_len (rd : List Ent → List UInt8 → Bool → RT → Prop) (L : List Ent) (r : List UInt8) (b : Bool) : ∀ (n : Nat) (l : List Int) (p : List Ent × List UInt8 × Bool), ReadsMany rd L r b n l p → l.length = n
  | 0, l, p, h => by rw [h.1]; rfl
  | n + 1, l, p, h => by
    obtain ⟨l0, L0, r0, b0, id, h1, _, rfl⟩ := h
    have := readsMany_len rd L r b n l0 _ h1
    simp [this]
theorem readsTerms_len {rd : List Ent → List UInt8 → Bool → RT → Prop} {limit : Nat} {L : List Ent} {r : List UInt8} {b : Bool} {l : List Int} {p : List Ent × List UInt8 × Bool} (h : ReadsTerms rd limit L r b l p) : l.length ≤ limit := by
  unfold ReadsTerms at h
  split at h
  · rw [h.1]; simp
  · rw [readsMany_len rd _ _ _ _ _ _ h]; omega
theorem idsAt_row {w : World} {base : Nat} {v : Value} {l : List Int} (h : w.ownsRow base 34 1 v l.length (idCells l)) : IdsAt w v l := by
  by_cases hl : l = []
  · subst hl
    rcases h.2 with ⟨rfl, _⟩ | ⟨g, cap, cur, rfl, _⟩
    · exact IdsAt.nil w
    · exact ⟨_, cap, rfl, fun h => absurd rfl h⟩
  · exact IdsAt.ofRow h fun e => absurd e hl

set_option maxHeartbeats 4000000 in
set_option maxRecDepth 100000 in
theorem rkind_seal {B A R f : Nat} (hT : TermC B A R f) {w : World} {L : List Ent} {F : Nat → Prop} {r r0 : List UInt8} {b b0 : Bool} (ho : octetP r b = (249, r0, b0)) (ha : ArenaAt B A L F w) (hR : RdAt w R A r b) (hF : ¬ F R) (hl : L.length + 10 * r.length ≤ 1000000000) (hr : r.length ≤ 1000000) (hf : r.length < f + 1) (hr0 : r0.length + 1 ≤ r.length) :
    Calls Tryz.prog 135 #[.pointer (some ⟨R, 0, none⟩)] w (RP B A R F w L r (Reads (f + 1) L r b)) := by
  have hoc := octet_any hR hr
  rw [ho] at hoc
  have hRl := hR.lt
  have c0 := hR.cell 0
  have HSl : Hid (∀ w1 : World, RdAt w1 R A r0 b0 → Moves (fun k => k = R) w w1 → Calls Tryz.prog 171 #[.pointer (some ⟨R, 0, none⟩)] w1 fun e w' => ∃ q : RT, ReadsKind (Reads f) 249 L r0 b0 q ∧ e = .returned (.int .i64 q.1) ∧ Left2 B A R F w L r q.2 w') := fun w1 h m => by
    have ha1 : ArenaAt B A L F w1 := ha.moves m fun k hk e => hF (e ▸ hk)
    refine (rsealed_any hT ha1 h hF (by omega) (by omega) (by omega)).mono ?_
    rintro e w' ⟨k, L1, r1, b1, t, L2, p, h1, h2, rfl, h3, h4, h5, F', h6, h7, h8⟩
    have hs := sealM_len L2 k (u32P r0 b0).1 t
    refine ⟨((sealM L2 k (u32P r0 b0).1 t).1, (sealM L2 k (u32P r0 b0).1 t).2, p), ?_, rfl, h3, by show (sealM L2 k (u32P r0 b0).1 t).2.length + 10 * p.1.length ≤ _; omega, by show p.1.length ≤ _; omega, F', h6, (m.mono fun k h _ => .inl h).trans h7 fun k h => .inl h, fun k hk => (h8 k hk).imp_right fun h => Nat.le_trans m.size h⟩
    unfold ReadsKind
    rw [if_neg (by decide), if_neg (by decide), if_neg (by decide), if_neg (by decide), if_neg (by decide), if_neg (by decide), if_neg (by decide), if_neg (by decide), if_pos rfl]
    exact ⟨k, L1, r1, b1, t, L2, p, h1, h2, rfl⟩
  have HK : Hid (∀ q : RT, ReadsKind (Reads f) 249 L r0 b0 q → Reads (f + 1) L r b q) := fun q h => by
    show ReadsKind _ _ _ _ _ _
    rw [ho]; exact h
  clear ho ha hR hT
  simp only at hoc
  go_enter Tryz.func135, Tryz.ntmps135
  go_wp2_with (first
    | (go_at_call 167; with_reducible refine hoc.mono ?_; rintro e w1 ⟨rfl, h1, m1⟩)
    | (go_at_call 171; with_reducible refine (HSl.out _ h1 m1).mono ?_; rintro e w2 ⟨q, hq, rfl, hl2⟩; have Q := Lib.hid hq; clear hq))
  go_ret
  exact ⟨q, HK.out _ Q.out, rfl, hl2⟩

set_option maxHeartbeats 4000000 in
set_option maxRecDepth 100000 in
theorem rkind_list {B A R f : Nat} (hT : TermC B A R f) {w : World} {L : List Ent} {F : Nat → Prop} {r r0 : List UInt8} {b b0 : Bool} (ho : octetP r b = (250, r0, b0)) (ha : ArenaAt B A L F w) (hR : RdAt w R A r b) (hF : ¬ F R) (hl : L.length + 10 * r.length ≤ 1000000000) (hr : r.length ≤ 1000000) (hf : r.length < f + 1) (hr0 : r0.length + 1 ≤ r.length) :
    Calls Tryz.prog 135 #[.pointer (some ⟨R, 0, none⟩)] w (RP B A R F w L r (Reads (f + 1) L r b)) := by
  have hoc := octet_any hR hr
  rw [ho] at hoc
  have hRl := hR.lt
  have c0 := hR.cell 0
  have HTs : Hid (∀ w1 : World, RdAt w1 R A r0 b0 → Moves (fun k => k = R) w w1 → Calls Tryz.prog 172 #[.pointer (some ⟨R, 0, none⟩), .int .u32 32] w1 fun e w' => ∃ (l : List Int) (ao : Option Addr) (cap : Nat) (L1 : List Ent) (r1 : List UInt8) (b1 : Bool) (F1 : Nat → Prop), ReadsTerms (Reads f) 32 L r0 b0 l (L1, r1, b1) ∧ l.length ≤ 32 ∧ e = .returned (.slice ao l.length cap) ∧ IdsAt w' (.slice ao l.length cap) l ∧ St B A R F w L r0 w' L1 F1 r1 b1) := fun w1 h m => by
    have ha1 : ArenaAt B A L F w1 := ha.moves m fun k hk e => hF (e ▸ hk)
    have hs0 : St B A R F w L r0 w1 L F r0 b0 := ⟨h, ha1, m.mono fun k h _ => .inl h, fun k h => .inl h, Nat.le_refl _, Nat.le_refl _⟩
    refine (rterms_any (limit := 32) hT (Nat.le_refl _) ha1 h hF (by omega) (by omega) (by omega)).mono ?_
    rintro e w' ⟨l, v, ⟨L1, r1, b1⟩, h1, rfl, h2, h3⟩
    obtain ⟨F2, hs2⟩ := hs0.term h3
    have hi := idsAt_row h2
    obtain ⟨ao, cap, rfl, hc⟩ := id hi
    exact ⟨l, ao, cap, L1, r1, b1, F2, h1, readsTerms_len h1, rfl, hi, hs2⟩
  have HCon : Hid (∀ (W : World) (L1 : List Ent) (F1 : Nat → Prop) (r1 : List UInt8) (b1 : Bool) (v : Value) (l : List Int), l.length ≤ 32 → IdsAt W v l → St B A R F w L r0 W L1 F1 r1 b1 → Calls Tryz.prog 14 #[.pointer (some ⟨A, 0, none⟩), v] W fun e w' => e = .returned (.int .i64 (listM L1 l).1) ∧ Left B A (listM L1 l).2 F1 W w') := fun W L1 F1 r1 b1 v l h32 hv hs => List_any hs.arena (by have := hs.few; omega) hv (by omega)
  have HFin : Hid (∀ (M L2 : List Ent) (F2 : Nat → Prop) (r2 : List UInt8) (b2 : Bool) (W W' : World), St B A R F w L r0 W L2 F2 r2 b2 → M.length ≤ L2.length + 1 → Left B A M F2 W W' → Left2 B A R F w L r (M, r2, b2) W') := fun M L2 F2 r2 b2 W W' hs hM hl => hs.made hF hRl hr0 hM hl
  have HK : Hid (∀ (l : List Int) (L1 : List Ent) (r1 : List UInt8) (b1 : Bool), ReadsTerms (Reads f) 32 L r0 b0 l (L1, r1, b1) → Reads (f + 1) L r b ((listM L1 l).1, (listM L1 l).2, r1, b1)) := by
    show ∀ (l : List Int) (L1 : List Ent) (r1 : List UInt8) (b1 : Bool), ReadsTerms (Reads f) 32 L r0 b0 l (L1, r1, b1) → Reads (f + 1) L r b ((listM L1 l).1, (listM L1 l).2, r1, b1)
    intro l L1 r1 b1 h
    show ReadsKind _ _ _ _ _ _
    rw [ho]
    show ReadsKind (Reads f) 250 L r0 b0 _
    unfold ReadsKind
    rw [if_neg (by decide), if_neg (by decide), if_neg (by decide), if_neg (by decide), if_neg (by decide), if_neg (by decide), if_neg (by decide), if_neg (by decide), if_neg (by decide), if_pos rfl]
    exact ⟨l, L1, (r1, b1), h, rfl⟩
  clear ho ha hR hT
  simp only at hoc
  go_enter Tryz.func135, Tryz.ntmps135
  go_wp2_with (first
    | (go_at_call 167; with_reducible refine hoc.mono ?_; rintro e w1 ⟨rfl, h1, m1⟩)
    | (go_at_call 172; with_reducible refine (HTs.out _ h1 m1).mono ?_; rintro e w2 ⟨l, ao, cap, L1, r1, b1, F1, hq, h32, rfl, hi, hs⟩; have Q := Lib.hid hq; have I2 := Lib.hid hi; have S2 := Lib.hid hs; clear hq hi hs)
    | (go_at_call 14; with_reducible refine (HCon.out _ _ _ _ _ _ _ h32 I2.out S2.out).mono ?_; rintro e w3 ⟨rfl, hl3⟩))
  go_ret
  exact ⟨((listM L1 l).1, (listM L1 l).2, r1, b1), HK.out _ _ _ _ Q.out, rfl, HFin.out _ _ _ _ _ _ _ S2.out (listM_len _ _) hl3⟩
end Go.Proofs.YtlalkpgipenkaaaGreatDoor

namespace Go.Proofs.YtlalkpgipenkaaaGreatDoor
open Go.RowKit

set_option maxRecDepth 100000 in
theorem slEqual_any {w : World} {v v' : Value} {l l' : List Int} (h : IdsAt w v l) (h' : IdsAt w v' l') (hl : l.length ≤ 65536) (hl' : l'.length ≤ 65536) :
    Calls Tryz.prog 216 #[v, v'] w fun e w' => e = .returned (.bool (decide (l = l'))) ∧ Below w.heap.size w w' := by
  obtain ⟨ao, cap, rfl, hc⟩ := h
  obtain ⟨ao', cap', rfl, hc'⟩ := h'
  by_cases hlen : l.length = l'.length
  · have hle : l'.length = l.length := hlen.symm
    rw [hle]
    clear hlen
    have HLE := Lib.hid hle
    clear hle hl'
    go_enter Tryz.func216, Tryz.ntmps216
    go_wp2_with fail
    go_loopw [13] (fun i wr => ∃ k : Nat, k ≤ l.length ∧ i = .int .i64 k ∧ l.take k = l'.take k ∧ Below w.heap.size w wr) (fun i _ => l.length - (intOf i).toNat)
    case atStart => exact ⟨0, Nat.zero_le _, rfl, rfl, Below.refl _ _⟩
    case round =>
      obtain ⟨k, hk, rfl, htk, hbel⟩ := hrel
      by_cases hlt : k < l.length
      · have hlt' : k < l'.length := by rw [HLE.out]; exact hlt
        obtain ⟨b, off, rfl, hb, hcell⟩ := hc (by intro h; simp [h] at hlt)
        obtain ⟨b', off', rfl, hb', hcell'⟩ := hc' (by intro h; simp [h] at hlt')
        obtain ⟨x, hx⟩ : ∃ x, x = l[k] := ⟨_, rfl⟩
        obtain ⟨y, hy⟩ : ∃ y, y = l'[k] := ⟨_, rfl⟩
        have c1 : wr.cell? ⟨b, off + k, none⟩ = some (.int .i64 x) := (hbel.cell (p := ⟨b, off + k, none⟩) hb).trans (hcell k x (by simp [hlt, hx]))
        have c2 : wr.cell? ⟨b', off' + k, none⟩ = some (.int .i64 y) := (hbel.cell (p := ⟨b', off' + k, none⟩) hb').trans (hcell' k y (by simp [hlt', hy]))
        have c3 : wr.drew.cell? ⟨b, off + k, none⟩ = some (.int .i64 x) := c1
        have c4 : wr.drew.cell? ⟨b', off' + k, none⟩ = some (.int .i64 y) := c2
        have HT : Hid (x = y → l.take (k + 1) = l'.take (k + 1)) := fun e => by
          rw [List.take_succ_eq_append_getElem hlt, List.take_succ_eq_append_getElem hlt', htk, ← hx, ← hy, e]
        have HN : Hid (x ≠ y → l ≠ l') := fun hne e => by subst e; exact hne (hx.trans hy.symm)
        clear hc hc' hcell hcell' htk hx hy hlt'
        have HB := Lib.hid hbel
        clear hbel
        go_wp2_with fail
        by_cases hxy : x = y
        · have hbq : (x != y) = false := by simp [hxy]
          go_region
          all_goals
            go_wp2_with fail
            go_roundw
            case rel => exact ⟨k + 1, by omega, by go_num, HT.out hxy, HB.out.drew⟩
            case measure => simp [intOf]; omega
        · have hbq : (x != y) = true := by simp [hxy]
          go_region
          all_goals
            go_wp2_with fail
            go_ret
            exact ⟨by rw [decide_eq_false (HN.out hxy)]; rfl, HB.out.drew⟩
      · have hkl : k = l.length := by omega
        subst hkl
        have he : decide (l = l') = true := by
          rw [List.take_length] at htk
          have : l'.take l.length = l' := List.take_of_length_le (by rw [HLE.out]; exact Nat.le_refl _)
          rw [this] at htk
          exact decide_eq_true htk
        have HE := Lib.hid he
        clear htk he hlt hc hc'
        go_wp2_with fail
        go_ret
        exact ⟨by rw [HE.out]; rfl, hbel⟩
  · have hne : decide (l = l') = false := decide_eq_false fun e => hlen (by rw [e])
    have HNE := Lib.hid hne
    clear hne hc hc'
    have hq : ((l.length : Int) != (l'.length : Int)) = true := by simp; omega
    go_enter Tryz.func216, Tryz.ntmps216
    go_wp2_with fail
    go_ret
    exact ⟨by rw [HNE.out]; rfl, Below.refl _ _⟩
end Go.Proofs.YtlalkpgipenkaaaGreatDoor

namespace Go.Proofs.YtlalkpgipenkaaaGreatDoor
open Go.RowKit

/-- View, its arguments read as the arena has them. -/
theorem view_args {B A : Nat} {L : List Ent} {F : Nat → Prop} {w : World} (ha : ArenaAt B A L F w) (t : Int) :
    Calls Tryz.prog 24 #[.pointer (some ⟨A, 0, none⟩), .int .i64 t] w fun r w' => ∃ (k a b : Int) (s : ByteArray) (ao : Option Addr) (c : Nat) (z : Bool), r = .returned (.tuple #[.agg #[.int .i64 k, .int .i64 a, .int .i64 b, .string s, .slice ao (argsAt L t).length c], .bool z]) ∧ IdsAt w' (.slice ao (argsAt L t).length c) (argsAt L t) ∧ (argsAt L t).length ≤ 65536 ∧ Below w.heap.size w w' := by
  by_cases h : 0 ≤ t ∧ t < (L.length : Int)
  · obtain ⟨n, rfl⟩ : ∃ n : Nat, t = n := ⟨t.toNat, by omega⟩
    have he : L[n]? = some (L[n]'(by omega)) := List.getElem?_eq_getElem (by omega)
    have hat : argsAt L (n : Int) = argsI (L[n]'(by omega)) := by
      have h1 : at_ L (n : Int) = some (L[n]'(by omega)) := by
        unfold at_
        rw [if_pos (by omega)]
        simp
      unfold argsAt argsI
      rw [h1]; rfl
    rw [hat]
    exact (view_cells ha he).mono fun r w' ⟨g, h1, h2, h3⟩ => ⟨_, _, _, _, _, _, _, h1, ⟨_, _, rfl, fun hne => by
      obtain ⟨h4, h5⟩ := h2 hne
      exact ⟨g, 0, rfl, h4, h5⟩⟩, by rw [argsI_len]; exact (ha.wf.ok n _ he).many, h3⟩
  · have hat : argsAt L t = [] := by
      unfold argsAt
      rw [at_no (by omega)]; rfl
    rw [hat]
    exact (View_no ha t (by omega)).mono fun r w' ⟨h1, h3⟩ => ⟨_, _, _, _, _, _, _, h1, IdsAt.nil w', by simp, h3⟩

/-- Where share stands: n terms may have come in besides. -/
structure Sh (B A R : Nat) (F : Nat → Prop) (w : World) (L : List Ent) (r : List UInt8) (n : Nat) (W : World) (L' : List Ent) (F' : Nat → Prop) (r' : List UInt8) (b' : Bool) : Prop where
  rd : RdAt W R A r' b'
  arena : ArenaAt B A L' F' W
  moves : Moves (fun k => k = R ∨ F k) w W
  new : ∀ k, F' k → F k ∨ w.heap.size ≤ k
  few : L'.length + 10 * r'.length ≤ L.length + 10 * r.length + n
  le : r'.length ≤ r.length
section
variable {B A R n : Nat} {F : Nat → Prop} {w W : World} {L L' : List Ent} {F' : Nat → Prop} {r r' : List UInt8} {b' : Bool}
theorem Sh.notF (h : Sh B A R F w L r n W L' F' r' b') (hF : ¬ F R) (hR : R < w.heap.size) : ¬ F' R := fun k => (h.new R k).elim hF fun e => by omega
theorem Sh.read (h : Sh B A R F w L r n W L' F' r' b') (hF : ¬ F R) (hR : R < w.heap.size) {w2 : World} {r2 : List UInt8} {b2 : Bool} (h2 : RdAt w2 R A r2 b2) (m : Moves (fun k => k = R) W w2) (hl : r2.length ≤ r'.length) : Sh B A R F w L r n w2 L' F' r2 b2 :=
  ⟨h2, h.arena.moves m fun k hk e => h.notF hF hR (e ▸ hk), h.moves.trans m fun k h => .inl (.inl h), h.new, by have := h.few; omega, by have := h.le; omega⟩
theorem Sh.made (h : Sh B A R F w L r n W L' F' r' b') (hF : ¬ F R) (hR : R < w.heap.size) {M : List Ent} (hM : M.length ≤ L'.length + 1) {w2 : World} (hl : Left B A M F' W w2) : ∃ F2, Sh B A R F w L r (n + 1) w2 M F2 r' b' ∧ Moves F' W w2 := by
  obtain ⟨F2, d, e, f⟩ := hl
  refine ⟨F2, ⟨h.rd.moves e (h.notF hF hR), d, h.moves.trans e fun k hk => (h.new k hk).imp_left .inr, fun k hk => ?_, by have := h.few; omega, h.le⟩, e⟩
  rcases f k hk with hk | hk
  · exact h.new k hk
  · exact .inr (Nat.le_trans h.moves.size hk)
theorem Sh.term (h : Sh B A R F w L r n W L' F' r' b') {w2 : World} {q : List Ent × List UInt8 × Bool} (hq : Left2 B A R F' W L' r' q w2) : ∃ F2, Sh B A R F w L r n w2 q.1 F2 q.2.1 q.2.2 := by
  obtain ⟨a, b, c, F2, d, e, f⟩ := hq
  refine ⟨F2, a, d, h.moves.trans e fun k hk => ?_, fun k hk => ?_, by have := h.few; omega, by have := h.le; omega⟩
  · rcases hk with rfl | hk
    · exact .inl (.inl rfl)
    · exact (h.new k hk).imp_left .inr
  · rcases f k hk with hk | hk
    · exact h.new k hk
    · exact .inr (Nat.le_trans h.moves.size hk)
theorem Sh.below (h : Sh B A R F w L r n W L' F' r' b') {w2 : World} (hb : Below W.heap.size W w2) : Sh B A R F w L r n w2 L' F' r' b' :=
  ⟨h.rd.moves (Moves.ofBelow (S := nobody) hb) (fun h => h), h.arena.below hb, h.moves.trans (Moves.ofBelow (S := nobody) hb) (fun k h => h.elim), h.new, h.few, h.le⟩
end
theorem baseM_len (L : List Ent) (s : ByteArray) : (baseM L s).2.length ≤ L.length + 1 := by
  unfold baseM; split
  · exact built_len _ _ _ _
  · exact Nat.le_add_right _ _
theorem expTo_len {L : List Ent} {s x : Int} {m : Int × List Ent} (h : ExpTo L s x m) : m.2.length ≤ L.length + 1 := by
  unfold ExpTo at h
  split at h
  · obtain ⟨e, _, h⟩ := h
    split at h
    · obtain ⟨d, _, _, rfl⟩ := h
      exact built_len _ _ _ _
    · rw [h]; exact Nat.le_add_right _ _
  · rw [h]; exact Nat.le_add_right _ _

def ShareC' (B A R f : Nat) : Prop := ∀ (w : World) (L : List Ent) (F : Nat → Prop) (r : List UInt8) (b : Bool), ArenaAt B A L F w → RdAt w R A r b → ¬ F R → L.length + 10 * r.length ≤ 999999990 → r.length ≤ 1000000 → r.length < f →
  Calls Tryz.prog 170 #[.pointer (some ⟨R, 0, none⟩)] w fun e w' => ∃ (q : RT) (F' : Nat → Prop), ReadsShare (Reads f) L r b q ∧ e = .returned (.int .i64 q.1) ∧ Sh B A R F w L r 9 w' q.2.1 F' q.2.2.1 q.2.2.2

theorem Sh.weak {B A R n m : Nat} {F : Nat → Prop} {w W : World} {L L' : List Ent} {F' : Nat → Prop} {r r' : List UInt8} {b' : Bool} (h : Sh B A R F w L r n W L' F' r' b') (hm : n ≤ m) : Sh B A R F w L r m W L' F' r' b' :=
  ⟨h.rd, h.arena, h.moves, h.new, Nat.le_trans h.few (Nat.add_le_add_left hm _), h.le⟩
def RowT (base : Nat) (v : Value) (l : List Int) (w : World) : Prop := w.ownsRow base 34 1 v l.length (idCells l)
theorem RowT.moves {base : Nat} {v : Value} {l : List Int} {w w' : World} {S : Nat → Prop} (h : RowT base v l w) (m : Moves S w w') (hS : ∀ k, v.ownBlock = some k → ¬ S k) : RowT base v l w' := owns_moves h m hS
theorem RowT.ids {base : Nat} {v : Value} {l : List Int} {w : World} (h : RowT base v l w) : IdsAt w v l := idsAt_row h
theorem RowT.arena {base B A : Nat} {v : Value} {l : List Int} {w w' : World} {L : List Ent} {F : Nat → Prop} (h : RowT base v l w) (ha : ArenaAt B A L F w) (m : Moves F w w') : RowT base v l w' := h.moves m (ha.ne_row h (by decide) (by decide))

set_option maxHeartbeats 4000000 in
set_option maxRecDepth 100000 in
theorem rshare_any {B A R f : Nat} (hT : TermC B A R f) : ShareC' B A R f := by
  intro w L F r b ha hR hF hl hr hf
  have hRl := hR.lt
  have hs0 : Sh B A R F w L r 0 w.drew L F r b := ⟨hR, ha, (Moves.refl _ _).drew, fun k h => .inl h, Nat.le_refl _, Nat.le_refl _⟩
  have hcl := cntP_le r b
  have c0 : w.drew.cell? ⟨R, 0, none⟩ = some (.pointer (some ⟨A, 0, none⟩)) := hR.cell 0
  obtain ⟨⟨s, r1, b1⟩, hq⟩ : ∃ q : List UInt8 × List UInt8 × Bool, q = cntP r b := ⟨_, rfl⟩
  rw [← hq] at hcl
  have hr1 : r1.length ≤ r.length := hcl.1
  have hsl : s.length ≤ r.length := hcl.2
  have HCnt : Hid (∀ W, Sh B A R F w L r 0 W L F r b → Calls Tryz.prog 168 #[.pointer (some ⟨R, 0, none⟩)] W fun e w' => e = .returned (.string (bs s)) ∧ Sh B A R F w L r 0 w' L F r1 b1 ∧ w'.cell? ⟨R, 0, none⟩ = some (.pointer (some ⟨A, 0, none⟩))) := fun W hs =>
    (rcounted_any hs.rd hr).mono fun e w' ⟨h1, h2, h3⟩ => by
      rw [← hq] at h1 h2
      exact ⟨h1, hs.read hF hRl h2 h3 hr1, h2.cell 0⟩
  obtain ⟨⟨t0, L0⟩, hm0⟩ : ∃ m : Int × List Ent, m = baseM L (bs s) := ⟨_, rfl⟩
  have HBase : Hid (∀ W, Sh B A R F w L r 0 W L F r1 b1 → Calls Tryz.prog 50 #[.pointer (some ⟨A, 0, none⟩), .string (bs s)] W fun e w' => e = .returned (.int .i64 t0) ∧ (∃ F1, Sh B A R F w L r 1 w' L0 F1 r1 b1) ∧ w'.cell? ⟨R, 0, none⟩ = some (.pointer (some ⟨A, 0, none⟩))) := fun W hs =>
    (Base_any hs.arena (by omega) (bs s) (by rw [bs_size]; omega)).mono fun e w' ⟨h1, h2⟩ => by
      rw [← hm0] at h1 h2
      obtain ⟨F2, h3, _⟩ := hs.made hF hRl (M := L0) (by have := baseM_len L (bs s); rw [← hm0] at this; exact this) h2
      exact ⟨h1, ⟨F2, h3⟩, h3.rd.cell 0⟩
  have HTs : Hid (∀ W F1, Sh B A R F w L r 1 W L0 F1 r1 b1 → Calls Tryz.prog 172 #[.pointer (some ⟨R, 0, none⟩), .int .u32 8] W fun e w' => ∃ (l : List Int) (ao : Option Addr) (cap : Nat) (L1 : List Ent) (r2 : List UInt8) (b2 : Bool) (F2 : Nat → Prop) (base : Nat), ReadsTerms (Reads f) 8 L0 r1 b1 l (L1, r2, b2) ∧ l.length ≤ 8 ∧ e = .returned (.slice ao l.length cap) ∧ RowT base (.slice ao l.length cap) l w' ∧ Sh B A R F w L r 1 w' L1 F2 r2 b2) := fun W F1 hs => by
    have hfe := hs.few
    refine (rterms_any (limit := 8) hT (by decide) hs.arena hs.rd (hs.notF hF hRl) (by omega) (by omega) (by omega)).mono ?_
    rintro e w' ⟨l, v, ⟨L1, r2, b2⟩, h1, rfl, h2, h3⟩
    obtain ⟨F2, hs2⟩ := hs.term h3
    obtain ⟨ao, cap, rfl, hc⟩ := idsAt_row h2
    exact ⟨l, ao, cap, L1, r2, b2, F2, _, h1, readsTerms_len h1, rfl, h2, hs2⟩
  have HExp : Hid (∀ (k : Nat) (W : World) (M : List Ent) (F2 : Nat → Prop) (r2 : List UInt8) (b2 : Bool) (t x : Int) (base : Nat) (v : Value) (l : List Int), k < 8 → RowT base v l W → Sh B A R F w L r (1 + k) W M F2 r2 b2 → Calls Tryz.prog 51 #[.pointer (some ⟨A, 0, none⟩), .int .i64 t, .int .i64 x] W fun e w' => ∃ (t' : Int) (M' : List Ent) (F3 : Nat → Prop), ExpTo M t x (t', M') ∧ e = .returned (.int .i64 t') ∧ Sh B A R F w L r (1 + (k + 1)) w' M' F3 r2 b2 ∧ RowT base v l w') := fun k W M F2 r2 b2 t x base v l hk hrow hs => by
    have hfe := hs.few
    refine (Exp_any hs.arena (by omega) t x).mono ?_
    rintro e w' ⟨⟨t', M'⟩, h1, h2, h3⟩
    obtain ⟨F3, h4, h5⟩ := hs.made hF hRl (expTo_len h1) h3
    exact ⟨t', M', F3, h1, h2, h4, hrow.arena hs.arena h5⟩
  have HView : Hid (∀ (n : Nat) (W : World) (M : List Ent) (F2 : Nat → Prop) (r2 : List UInt8) (b2 : Bool) (t : Int) (base : Nat) (v : Value) (l : List Int), l.length ≤ 8 → RowT base v l W → Sh B A R F w L r n W M F2 r2 b2 → Calls Tryz.prog 24 #[.pointer (some ⟨A, 0, none⟩), .int .i64 t] W fun e w' => ∃ (k a b : Int) (s : ByteArray) (ao : Option Addr) (m c : Nat) (z : Bool), e = .returned (.tuple #[.agg #[.int .i64 k, .int .i64 a, .int .i64 b, .string s, .slice ao m c], .bool z]) ∧
      ∀ w6, Below w'.heap.size w' w6 → Sh B A R F w L r n w6 M F2 r2 b2 ∧ Calls Tryz.prog 216 #[.slice ao m c, v] w6 fun e w7 => e = .returned (.bool (decide (argsAt M t = l))) ∧ Below w6.heap.size w6 w7) := fun n W M F2 r2 b2 t base v l h8 hrow hs => by
    refine (view_args hs.arena t).mono ?_
    rintro e w' ⟨k, a, b, s, ao, c, z, rfl, hi, h65, hb⟩
    refine ⟨k, a, b, s, ao, _, c, z, rfl, fun w6 hb6 => ⟨hs.below (hb.trans (hb6.mono hb.size)), ?_⟩⟩
    exact slEqual_any (hi.below hb6) ((hrow.ids.below hb).below hb6) h65 (by omega)
  have HFail : Hid (∀ (n : Nat) (W : World) (M : List Ent) (F2 : Nat → Prop) (r2 : List UInt8) (b2 : Bool), Sh B A R F w L r n W M F2 r2 b2 → Calls Tryz.prog 173 #[.pointer (some ⟨R, 0, none⟩)] W fun e w' => e = .returned (.tuple #[]) ∧ Sh B A R F w L r n w' M F2 [] true) := fun n W M F2 r2 b2 hs =>
    (fail_any hs.rd).mono fun e w' ⟨h1, h2, h3⟩ => ⟨h1, hs.read hF hRl h2 h3 (Nat.zero_le _)⟩
  have HR : Hid (∀ (l : List Int) (L1 : List Ent) (r2 : List UInt8) (b2 : Bool) (m : Int × List Ent), ReadsTerms (Reads f) 8 L0 r1 b1 l (L1, r2, b2) → ExpsTo L1 t0 l l.length m → ReadsShare (Reads f) L r b (if argsAt m.2 m.1 = l then (m.1, m.2, r2, b2) else (-1, m.2, [], true))) := fun l L1 r2 b2 m h1 h2 => by
    refine ⟨l, L1, r2, b2, m, ?_, ?_, rfl⟩
    · rw [← hq, ← hm0]; exact h1
    · rw [← hq, ← hm0]; exact h2
  have HS0 := Lib.hid hs0
  clear hs0 hq hm0 hcl hr1 hsl hT ha hR hF hl hr hf
  go_enter Tryz.func170, Tryz.ntmps170
  go_wp2_with fail
  go_region_held3 (fun w' => w'.cell? ⟨R, 0, none⟩ = some (.pointer (some ⟨A, 0, none⟩))) (first | with_reducible exact c0 | with_reducible exact c1 | with_reducible exact c2)
    (first
    | (go_at_call 168; with_reducible refine (HCnt.out _ HS0.out).mono ?_; rintro e w1 ⟨rfl, hs1, c1⟩; have HS1 := Lib.hid hs1; clear hs1)
    | (go_at_call 50; with_reducible refine (HBase.out _ HS1.out).mono ?_; rintro e w2 ⟨rfl, ⟨F1, hs2⟩, c2⟩; have HS2 := Lib.hid hs2; clear hs2))
  clear c0 c1 c2
  go_wp2_with (
    go_at_call 172
    with_reducible refine (HTs.out _ _ HS2.out).mono ?_
    rintro e w3 ⟨l, ao, cap, L1, r2, b2, F2, base, hq, h8, rfl, hrow, hs3⟩
    have HQ := Lib.hid hq
    have HRow := Lib.hid hrow
    have HS3 := Lib.hid hs3
    clear hq hrow hs3)
  clear HCnt HBase HTs
  go_loopw [3, 20] (fun t i wr => ∃ (k : Nat) (t1 : Int) (M : List Ent) (F3 : Nat → Prop), k ≤ l.length ∧ t = .int .i64 t1 ∧ i = .int .i64 k ∧ ExpsTo L1 t0 l k (t1, M) ∧ RowT base (.slice ao l.length cap) l wr ∧ Sh B A R F w L r (1 + k) wr M F3 r2 b2) (fun _ i _ => l.length - (intOf i).toNat)
  case atStart => exact ⟨0, t0, L1, F2, Nat.zero_le _, rfl, rfl, rfl, HRow.out, HS3.out⟩
  case round =>
    clear HRow HS3
    obtain ⟨k, t1, M, F3, hk, rfl, rfl, hexp, hrow, hs⟩ := hrel
    have c0 : wr.cell? ⟨R, 0, none⟩ = some (.pointer (some ⟨A, 0, none⟩)) := hs.rd.cell 0
    by_cases hlt : k < l.length
    · have hids := hrow.ids
      obtain ⟨ao', cap', hv, hc⟩ := hids
      obtain ⟨bb, off, hao, hbl, hcells⟩ := hc (by intro e; rw [e] at hlt; simp at hlt)
      injection hv with hv1 _ hv3
      subst hv1 hv3 hao
      have hcell := hcells k l[k] (List.getElem?_eq_getElem hlt)
      have hxk : l.getD k (-1) = l[k] := by simp [hlt]
      generalize l[k] = x at *
      have HRow := Lib.hid hrow
      have HS := Lib.hid hs
      have HE := Lib.hid hexp
      have HX := Lib.hid hxk
      have HK8 := Lib.hid (show k < 8 by omega)
      clear hrow hs hexp hxk hc hcells
      go_wp2_with (
        go_at_call 51
        with_reducible refine (HExp.out k _ _ _ _ _ _ _ _ _ _ HK8.out HRow.out HS.out).mono ?_
        rintro e w4 ⟨t2, M2, F4, he, rfl, hs4, hrow4⟩
        have HE4 := Lib.hid he
        have HS4 := Lib.hid hs4
        have HRow4 := Lib.hid hrow4
        clear he hs4 hrow4)
      go_roundw
      case rel => exact ⟨k + 1, t2, M2, F4, by omega, rfl, by go_num, ⟨(t1, M), HE.out, by rw [HX.out]; exact HE4.out⟩, HRow4.out, HS4.out⟩
      case measure => simp [intOf]; omega
    · have hkl : k = l.length := by omega
      subst hkl
      have hq2 := HR.out l L1 r2 b2 (t1, M) HQ.out hexp
      have HRow := Lib.hid hrow
      have HS := Lib.hid hs
      clear hrow hs hexp hlt HExp
      have HV : Hid (∀ z : Bool, decide (argsAt M t1 = l) = z → Calls Tryz.prog 24 #[.pointer (some ⟨A, 0, none⟩), .int .i64 t1] wr fun e w' => ∃ (k a b : Int) (s : ByteArray) (ao2 : Option Addr) (m2 c2 : Nat) (zz : Bool), e = .returned (.tuple #[.agg #[.int .i64 k, .int .i64 a, .int .i64 b, .string s, .slice ao2 m2 c2], .bool zz]) ∧
          ∀ w6, Below w'.heap.size w' w6 → Calls Tryz.prog 216 #[.slice ao2 m2 c2, .slice ao l.length cap] w6 fun e w7 => e = .returned (.bool z) ∧ Sh B A R F w L r (1 + l.length) w7 M F3 r2 b2) := fun z hz => by
        refine (HView.out _ _ _ _ _ _ t1 _ _ _ h8 HRow.out HS.out).mono ?_
        rintro e w' ⟨k, a, b, s, ao2, m2, c2, zz, rfl, h⟩
        refine ⟨k, a, b, s, ao2, m2, c2, zz, rfl, fun w6 hb6 => ?_⟩
        obtain ⟨h1, h2⟩ := h w6 hb6
        rw [← hz]
        exact h2.mono fun e w7 ⟨h3, h4⟩ => ⟨h3, h1.below h4⟩
      have H9 := Lib.hid (show 1 + l.length ≤ 9 by omega)
      clear HView HRow HS h8 hk
      by_cases heq : argsAt M t1 = l
      · have hv := Lib.hid (HV.out true (decide_eq_true heq))
        simp only [if_pos heq] at hq2
        have HQ2 := Lib.hid hq2
        clear HV hq2 heq
        go_wp2_with (first
          | (go_at_call 24; with_reducible refine hv.out.mono ?_; rintro e w4 ⟨k4, a4, b4, s4, ao4, m4, c4, z4, rfl, he4⟩; have HE4 := Lib.hid he4; clear he4)
          | (go_at_call 216; refine (HE4.out _ ((Below.refl _ _).alloc (Nat.le_refl _) _)).mono ?_; rintro e w5 ⟨rfl, hs5⟩; have HS5 := Lib.hid hs5; clear hs5))
        go_ret
        exact ⟨_, _, HQ2.out, rfl, HS5.out.weak H9.out⟩
      · have hv := Lib.hid (HV.out false (decide_eq_false heq))
        simp only [if_neg heq] at hq2
        have HQ2 := Lib.hid hq2
        clear HV hq2 heq
        go_wp2_with (first
          | (go_at_call 24; with_reducible refine hv.out.mono ?_; rintro e w4 ⟨k4, a4, b4, s4, ao4, m4, c4, z4, rfl, he4⟩; have HE4 := Lib.hid he4; clear he4)
          | (go_at_call 216; refine (HE4.out _ ((Below.refl _ _).alloc (Nat.le_refl _) _)).mono ?_; rintro e w5 ⟨rfl, hs5⟩; have HS5 := Lib.hid hs5; clear hs5)
          | (go_at_call 173; with_reducible refine (HFail.out _ _ _ _ _ _ HS5.out).mono ?_; rintro e w6 ⟨rfl, hs6⟩; have HS6 := Lib.hid hs6; clear hs6))
        go_ret
        exact ⟨_, _, HQ2.out, rfl, HS6.out.weak H9.out⟩
end Go.Proofs.YtlalkpgipenkaaaGreatDoor

namespace Go.Proofs.YtlalkpgipenkaaaGreatDoor
open Go.RowKit

theorem Sh.left {B A R : Nat} {F : Nat → Prop} {w w1 W : World} {L L' : List Ent} {F' : Nat → Prop} {r r0 r' : List UInt8} {b' : Bool} (h : Sh B A R F w1 L r0 9 W L' F' r' b') (m : Moves (fun k => k = R) w w1) (hr : r0.length + 1 ≤ r.length) : Left2 B A R F w L r (L', r', b') W :=
  ⟨h.rd, by have := h.few; show L'.length + 10 * r'.length ≤ _; omega, by have := h.le; show r'.length ≤ _; omega, F', h.arena, (m.mono fun k h _ => .inl h).trans h.moves fun k h => .inl h, fun k hk => (h.new k hk).imp_right fun h => Nat.le_trans m.size h⟩

set_option maxHeartbeats 4000000 in
set_option maxRecDepth 100000 in
theorem rkind_share {B A R f : Nat} (hT : TermC B A R f) {w : World} {L : List Ent} {F : Nat → Prop} {r r0 : List UInt8} {b b0 : Bool} (ho : octetP r b = (245, r0, b0)) (ha : ArenaAt B A L F w) (hR : RdAt w R A r b) (hF : ¬ F R) (hl : L.length + 10 * r.length ≤ 1000000000) (hr : r.length ≤ 1000000) (hf : r.length < f + 1) (hr0 : r0.length + 1 ≤ r.length) :
    Calls Tryz.prog 135 #[.pointer (some ⟨R, 0, none⟩)] w (RP B A R F w L r (Reads (f + 1) L r b)) := by
  have hoc := octet_any hR hr
  rw [ho] at hoc
  have hRl := hR.lt
  have c0 := hR.cell 0
  have HSl : Hid (∀ w1 : World, RdAt w1 R A r0 b0 → Moves (fun k => k = R) w w1 → Calls Tryz.prog 170 #[.pointer (some ⟨R, 0, none⟩)] w1 fun e w' => ∃ q : RT, ReadsKind (Reads f) 245 L r0 b0 q ∧ e = .returned (.int .i64 q.1) ∧ Left2 B A R F w L r q.2 w') := fun w1 h m => by
    have ha1 : ArenaAt B A L F w1 := ha.moves m fun k hk e => hF (e ▸ hk)
    refine (rshare_any hT w1 L F r0 b0 ha1 h hF (by omega) (by omega) (by omega)).mono ?_
    rintro e w' ⟨q, F', h1, rfl, h3⟩
    refine ⟨q, ?_, rfl, h3.left m hr0⟩
    unfold ReadsKind
    rw [if_neg (by decide), if_neg (by decide), if_neg (by decide), if_neg (by decide), if_pos rfl]
    exact h1
  have HK : Hid (∀ q : RT, ReadsKind (Reads f) 245 L r0 b0 q → Reads (f + 1) L r b q) := fun q h => by
    show ReadsKind _ _ _ _ _ _
    rw [ho]; exact h
  clear ho ha hR hT
  simp only at hoc
  go_enter Tryz.func135, Tryz.ntmps135
  go_wp2_with (first
    | (go_at_call 167; with_reducible refine hoc.mono ?_; rintro e w1 ⟨rfl, h1, m1⟩)
    | (go_at_call 170; with_reducible refine (HSl.out _ h1 m1).mono ?_; rintro e w2 ⟨q, hq, rfl, hl2⟩; have Q := Lib.hid hq; clear hq))
  go_ret
  exact ⟨q, HK.out _ Q.out, rfl, hl2⟩

set_option maxHeartbeats 4000000 in
set_option maxRecDepth 100000 in
theorem rkind_none {B A R f o : Nat} {w : World} {L : List Ent} {F : Nat → Prop} {r r0 : List UInt8} {b b0 : Bool} (ho : octetP r b = (o, r0, b0)) (ho1 : o ≤ 255) (ho2 : o < 241 ∨ 250 < o) (ha : ArenaAt B A L F w) (hR : RdAt w R A r b) (hF : ¬ F R) (hr : r.length ≤ 1000000) :
    Calls Tryz.prog 135 #[.pointer (some ⟨R, 0, none⟩)] w (RP B A R F w L r (Reads (f + 1) L r b)) := by
  have hoc := octet_any hR hr
  rw [ho] at hoc
  have c0 := hR.cell 0
  have HFl : Hid (∀ w1 : World, RdAt w1 R A r0 b0 → Moves (fun k => k = R) w w1 → Calls Tryz.prog 173 #[.pointer (some ⟨R, 0, none⟩)] w1 fun e w' => e = .returned (.tuple #[]) ∧ Left2 B A R F w L r (L, [], true) w') := fun w1 h m =>
    (fail_any h).mono fun e w' ⟨h1, h2, h3⟩ => by
      have m3 := m.trans h3 fun _ h => .inl h
      exact ⟨h1, h2, by show L.length + 10 * 0 ≤ _; omega, Nat.zero_le _, F, ha.moves m3 fun k hk e => hF (e ▸ hk), m3.mono fun k h _ => .inl h, fun k h => .inl h⟩
  have HK : Hid (Reads (f + 1) L r b (-1, L, [], true)) := by
    show ReadsKind _ _ _ _ _ _
    rw [ho]
    show ReadsKind (Reads f) o L r0 b0 _
    unfold ReadsKind
    rw [if_neg (by omega), if_neg (by omega), if_neg (by omega), if_neg (by omega), if_neg (by omega), if_neg (by omega), if_neg (by omega), if_neg (by omega), if_neg (by omega), if_neg (by omega)]
  clear ho ha hR hF
  simp only at hoc
  have n1 : ¬ ((o : Int) - 240 = 1) := by omega
  have n2 : ¬ ((o : Int) - 240 = 2) := by omega
  have n3 : ¬ ((o : Int) - 240 = 3) := by omega
  have n4 : ¬ ((o : Int) - 240 = 4) := by omega
  have n5 : ¬ ((o : Int) - 240 = 5) := by omega
  have n6 : ¬ ((o : Int) - 240 = 6) := by omega
  have n7 : ¬ ((o : Int) - 240 = 7) := by omega
  have n8 : ¬ ((o : Int) - 240 = 8) := by omega
  have n9 : ¬ ((o : Int) - 240 = 9) := by omega
  have n10 : ¬ ((o : Int) - 240 = 10) := by omega
  clear ho2
  go_enter Tryz.func135, Tryz.ntmps135
  go_wp2_with (first
    | (go_at_call 167; with_reducible refine hoc.mono ?_; rintro e w1 ⟨rfl, h1, m1⟩)
    | (go_at_call 173; with_reducible refine (HFl.out _ h1 m1).mono ?_; rintro e w2 ⟨rfl, hl2⟩))
  go_ret
  exact ⟨(-1, L, [], true), HK.out, rfl, hl2⟩

theorem octetP_lt (r : List UInt8) (b : Bool) (h : (octetP r b).1 ≠ 0) : (octetP r b).2.1.length + 1 ≤ r.length := by
  cases r with
  | nil => exact absurd rfl h
  | cons x l =>
    unfold octetP
    cases b <;> simp

/-- The reader's term, at any depth that its bytes allow. -/
theorem term_any (B A R : Nat) : ∀ f, TermC B A R f
  | 0 => fun w L F r b ha hR hF hl hr hf => absurd hf (Nat.not_lt_zero _)
  | f + 1 => fun w L F r b ha hR hF hl hr hf => by
    have hT := term_any B A R f
    have hlt := octetP_lt r b
    have hle := (octetP_le r b).2
    obtain ⟨⟨o, r0, b0⟩, ho⟩ : ∃ q, q = octetP r b := ⟨_, rfl⟩
    rw [← ho] at hlt hle
    have ho := ho.symm
    have hlt' : o ≠ 0 → r0.length + 1 ≤ r.length := hlt
    have hle' : o ≤ 255 := hle
    clear hlt hle
    by_cases h0 : o < 241 ∨ 250 < o
    · exact rkind_none ho hle' h0 ha hR hF hr
    · have hr0 := hlt' (by omega)
      by_cases h1 : o = 241
      · subst h1; exact rkind_data hT ho ha hR hF hl hr hf hr0
      by_cases h2 : o = 242
      · subst h2; exact rkind_nonce hT ho ha hR hF hl hr hf hr0
      by_cases h3 : o = 243
      · subst h3; exact rkind_key hT ho ha hR hF hl hr hf hr0
      by_cases h4 : o = 244
      · subst h4; exact rkind_pub hT ho ha hR hF hl hr hf hr0
      by_cases h5 : o = 245
      · subst h5; exact rkind_share hT ho ha hR hF hl hr hf hr0
      by_cases h6 : o = 246
      · subst h6; exact rkind_sign hT ho ha hR hF hl hr hf hr0
      by_cases h7 : o = 247
      · subst h7; exact rkind_hash hT ho ha hR hF hl hr hf hr0
      by_cases h8 : o = 248
      · subst h8; exact rkind_derive hT ho ha hR hF hl hr hf hr0
      by_cases h9 : o = 249
      · subst h9; exact rkind_seal hT ho ha hR hF hl hr hf hr0
      have h10 : o = 250 := by omega
      subst h10; exact rkind_list hT ho ha hR hF hl hr hf hr0
end Go.Proofs.YtlalkpgipenkaaaGreatDoor
