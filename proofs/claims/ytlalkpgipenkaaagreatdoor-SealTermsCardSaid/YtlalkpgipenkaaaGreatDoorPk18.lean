/- Part 18 of what the statement wants. -/
import Derived.Test.YtlalkpgipenkaaaGreatDoorPk14
import Derived.Test.YtlalkpgipenkaaaGreatDoorPk16
import Derived.Test.YtlalkpgipenkaaaGreatDoorPk17
namespace Go.Proofs.YtlalkpgipenkaaaGreatDoor
open Go.RowKit

abbrev TT := List UInt8 × List UInt8 × Bool
def manyT (rd : List UInt8 → Bool → TT) (r : List UInt8) (b : Bool) : Nat → List (List UInt8) × List UInt8 × Bool
  | 0 => ([], r, b)
  | n + 1 => ((manyT rd r b n).1 ++ [(rd (manyT rd r b n).2.1 (manyT rd r b n).2.2).1], (rd (manyT rd r b n).2.1 (manyT rd r b n).2.2).2)
def termsT (rd : List UInt8 → Bool → TT) (limit : Nat) (r : List UInt8) (b : Bool) : List (List UInt8) × List UInt8 × Bool :=
  if limit < (u32P r b).1 then ([], [], true) else manyT rd (u32P r b).2.1 (u32P r b).2.2 (u32P r b).1
def shareT (rd : List UInt8 → Bool → TT) (r : List UInt8) (b : Bool) : TT :=
  if (nodeOf ((termsT rd 8 (cntP r b).2.1 (cntP r b).2.2).1.foldl refExpL (refBaseL (cntP r b).1))).args = (termsT rd 8 (cntP r b).2.1 (cntP r b).2.2).1 then
    ((termsT rd 8 (cntP r b).2.1 (cntP r b).2.2).1.foldl refExpL (refBaseL (cntP r b).1), (termsT rd 8 (cntP r b).2.1 (cntP r b).2.2).2) else ([], [], true)
def signT (rd : List UInt8 → Bool → TT) (c : TT) : TT := (refSignL c.1 (rd c.2.1 c.2.2).1 (rd (rd c.2.1 c.2.2).2.1 (rd c.2.1 c.2.2).2.2).1, (rd (rd c.2.1 c.2.2).2.1 (rd c.2.1 c.2.2).2.2).2)
def sealT (rd : List UInt8 → Bool → TT) (u : Nat × List UInt8 × Bool) : TT := (refSealL (rd u.2.1 u.2.2).1 u.1 (rd (rd u.2.1 u.2.2).2.1 (rd u.2.1 u.2.2).2.2).1, (rd (rd u.2.1 u.2.2).2.1 (rd u.2.1 u.2.2).2.2).2)
def deriveT (rd : List UInt8 → Bool → TT) (c : Nat × List UInt8 × Bool) : TT :=
  let x := rd c.2.1 c.2.2
  let y := rd x.2.1 x.2.2
  let z := rd y.2.1 y.2.2
  (refDeriveL (UInt8.ofNat c.1) x.1 y.1 z.1, z.2)
def kindT (rd : List UInt8 → Bool → TT) (o : Nat) (r : List UInt8) (b : Bool) : TT :=
  if o = 241 then (refDataL (cntP r b).1, (cntP r b).2)
  else if o = 242 then (refNonceL (u32P r b).1 (u32P (u32P r b).2.1 (u32P r b).2.2).1, (u32P (u32P r b).2.1 (u32P r b).2.2).2)
  else if o = 243 then (refKeyL (u32P r b).1, (u32P r b).2)
  else if o = 244 then (refPubL (rd r b).1, (rd r b).2)
  else if o = 245 then shareT rd r b
  else if o = 246 then signT rd (cntP r b)
  else if o = 247 then (refHashL (rd r b).1, (rd r b).2)
  else if o = 248 then deriveT rd (octetP r b)
  else if o = 249 then sealT rd (u32P r b)
  else if o = 250 then (refListL (termsT rd 32 r b).1, (termsT rd 32 r b).2)
  else ([], [], true)
def readT : Nat → List UInt8 → Bool → TT
  | 0, _, _ => ([], [], true)
  | f + 1, r, b => kindT (readT f) (octetP r b).1 (octetP r b).2.1 (octetP r b).2.2

/-- What the reader gives, beside the reader on texts. -/
structure Rd (L : List Ent) (r : List UInt8) (q : RT) (t : TT) : Prop where
  text : TAt q.2.1 q.1 t.1
  rest : q.2.2 = t.2
  good : Good q.2.1
  pre : L <+: q.2.1
  few : q.2.1.length + 10 * q.2.2.1.length ≤ L.length + 10 * r.length
  le : q.2.2.1.length ≤ r.length
def RdC (f : Nat) : Prop := ∀ (L : List Ent) (r : List UInt8) (b : Bool) (q : RT), Good L → L.length + 10 * r.length ≤ 1000000000 → Reads f L r b q → Rd L r q (readT f r b)
structure Rds (L : List Ent) (r : List UInt8) (l : List Int) (p : List Ent × List UInt8 × Bool) (t : List (List UInt8) × List UInt8 × Bool) : Prop where
  texts : TAts p.1 l t.1
  rest : p.2 = t.2
  good : Good p.1
  pre : L <+: p.1
  few : p.1.length + 10 * p.2.1.length ≤ L.length + 10 * r.length
  le : p.2.1.length ≤ r.length

/-- A constructor behind the last term. -/
theorem Same.rd {L M : List Ent} {r r' : List UInt8} {b' : Bool} {m : Int × List Ent} {T : List UInt8} (h : Same M m T) (hp : L <+: M) (hf : M.length + 10 * r'.length + 1 ≤ L.length + 10 * r.length) (hl : r'.length ≤ r.length) : Rd L r (m.1, m.2, r', b') (T, r', b') :=
  ⟨h.is, rfl, h.good, hp.trans h.pre, by have := h.more; show m.2.length + 10 * r'.length ≤ _; omega, hl⟩

theorem TAts.pre {L M : List Ent} (hG : Good M) (hp : L <+: M) : ∀ {l : List Int} {ts : List (List UInt8)}, TAts L l ts → TAts M l ts
  | _, _, .nil => .nil
  | _, _, .cons h k => .cons (h.pre hG hp) (TAts.pre hG hp k)
theorem TAts.snoc {L : List Ent} {i : Int} {t : List UInt8} (h : TAt L i t) : ∀ {l : List Int} {ts : List (List UInt8)}, TAts L l ts → TAts L (l ++ [i]) (ts ++ [t])
  | _, _, .nil => .cons h .nil
  | _, _, .cons h1 k => .cons h1 (TAts.snoc h k)

theorem TAts.nth {L : List Ent} : ∀ {l : List Int} {ts : List (List UInt8)}, TAts L l ts → ∀ (k : Nat) (h1 : k < l.length) (h2 : k < ts.length), TAt L l[k] ts[k]
  | _, _, .cons h k, 0, _, _ => h
  | _, _, .cons h k, j + 1, h1, h2 => TAts.nth k j (by simpa using h1) (by simpa using h2)
theorem many_rd {f : Nat} (hC : RdC f) {L : List Ent} (hG : Good L) {r : List UInt8} {b : Bool} (hl : L.length + 10 * r.length ≤ 1000000000) : ∀ (n : Nat) (l : List Int) (p : List Ent × List UInt8 × Bool), ReadsMany (Reads f) L r b n l p → Rds L r l p (manyT (readT f) r b n)
  | 0, l, p, h => by
    obtain ⟨rfl, rfl⟩ := h
    exact ⟨.nil, rfl, hG, List.prefix_refl _, Nat.le_refl _, Nat.le_refl _⟩
  | n + 1, l, p, h => by
    obtain ⟨l0, L0, r0, b0, id, h1, h2, rfl⟩ := h
    have i1 := many_rd hC hG hl n _ _ h1
    have e1 : (r0, b0) = (manyT (readT f) r b n).2 := i1.rest
    have f1 : L0.length + 10 * r0.length ≤ L.length + 10 * r.length := i1.few
    have l1 : r0.length ≤ r.length := i1.le
    have i2 := hC L0 r0 b0 (id, p) i1.good (by omega) h2
    have f2 : p.1.length + 10 * p.2.1.length ≤ L0.length + 10 * r0.length := i2.few
    have l2 : p.2.1.length ≤ r0.length := i2.le
    have e2 : readT f r0 b0 = readT f (manyT (readT f) r b n).2.1 (manyT (readT f) r b n).2.2 := by rw [← e1]
    refine ⟨?_, ?_, i2.good, i1.pre.trans i2.pre, by omega, by omega⟩
    · show TAts p.1 (l0 ++ [id]) ((manyT (readT f) r b n).1 ++ [_])
      rw [← e2]
      exact TAts.snoc i2.text (TAts.pre i2.good i2.pre i1.texts)
    · show p.2 = (readT f _ _).2
      rw [← e2]; exact i2.rest

theorem terms_rd {f : Nat} (hC : RdC f) {limit : Nat} {L : List Ent} (hG : Good L) {r : List UInt8} {b : Bool} (hl : L.length + 10 * r.length ≤ 1000000000) {l : List Int} {p : List Ent × List UInt8 × Bool} (h : ReadsTerms (Reads f) limit L r b l p) : Rds L r l p (termsT (readT f) limit r b) := by
  have hle := u32P_le r b
  unfold ReadsTerms at h
  unfold termsT
  split at h
  · rename_i h0
    rw [if_pos h0]
    obtain ⟨rfl, rfl⟩ := h
    exact ⟨.nil, rfl, hG, List.prefix_refl _, by show L.length + 10 * 0 ≤ _; omega, Nat.zero_le _⟩
  · rename_i h0
    rw [if_neg h0]
    have i1 := many_rd hC hG (by omega) _ _ _ h
    exact ⟨i1.texts, i1.rest, i1.good, i1.pre, by have := i1.few; omega, by have := i1.le; omega⟩

/-- The exponents, one behind the other. -/
theorem exps_same {L : List Ent} (hG : Good L) {s : Int} {S : List UInt8} (hs : TAt L s S) {l : List Int} {ts : List (List UInt8)} (h : TAts L l ts) : ∀ (k : Nat) (m : Int × List Ent), k ≤ l.length → L.length + k < 1073741824 → ExpsTo L s l k m → Good m.2 ∧ L <+: m.2 ∧ m.2.length ≤ L.length + k ∧ TAt m.2 m.1 ((ts.take k).foldl refExpL S)
  | 0, m, _, _, h0 => by
    have h0 : m = (s, L) := h0
    subst h0
    exact ⟨hG, List.prefix_refl _, Nat.le_refl _, hs⟩
  | k + 1, m, hk, hlen, h0 => by
    obtain ⟨m0, h1, h2⟩ := h0
    obtain ⟨g, p, n, t⟩ := exps_same hG hs h k m0 (by omega) (by omega) h1
    have hlt : k < ts.length := by rw [← h.length]; omega
    have hx : TAt m0.2 (l.getD k (-1)) ts[k] := by
      have hg : l.getD k (-1) = l[k] := by simp [show k < l.length by omega]
      rw [hg]
      exact (TAts.nth h k (by omega) hlt).pre g p
    have hsame := exp_same m0.2 m0.1 (l.getD k (-1)) _ _ m g (by omega) t hx h2
    refine ⟨hsame.good, p.trans hsame.pre, by have := hsame.more; omega, ?_⟩
    rw [List.take_succ_eq_append_getElem hlt, List.foldl_append]
    exact hsame.is

theorem args_iff {M : List Ent} (hG : Good M) : ∀ (d : List Nat) {l : List Int} {ts : List (List UInt8)}, (∀ t ∈ d, t < M.length) → TAts M l ts → (d.map Int.ofNat = l ↔ d.map (enc M) = ts)
  | [], _, _, _, .nil => by simp
  | [], _, _, _, .cons h k => by simp
  | t :: d, _, _, _, .nil => by simp
  | t :: d, _, _, hd, .cons (i := i) (t := u) h k => by
    have h1 := args_iff hG d (fun x hx => hd x (by simp [hx])) k
    have h2 := TAt.same hG (.inr ⟨t, rfl, hd t (by simp), rfl⟩) h
    simp only [List.map_cons, List.cons.injEq]
    rw [h1]
    exact and_congr_left fun _ => h2
theorem argsAt_iff {M : List Ent} (hG : Good M) {t : Int} {U : List UInt8} (h : TAt M t U) {l : List Int} {ts : List (List UInt8)} (hl : TAts M l ts) : argsAt M t = l ↔ (nodeOf U).args = ts := by
  rcases h with ⟨rfl, rfl⟩ | ⟨n, rfl, hn, rfl⟩
  · have h1 : argsAt M (-1) = [] := by
      unfold argsAt
      rw [at_no (.inl (by omega))]; rfl
    have h2 : (nodeOf []).args = [] := by rfl
    rw [h1, h2]
    exact args_iff hG [] (by simp) hl
  · have he : M[n]? = some (M[n]'hn) := List.getElem?_eq_getElem hn
    have h1 : argsAt M (n : Int) = (M[n]'hn).sh.args.map Int.ofNat := by
      have h3 : at_ M (n : Int) = some (M[n]'hn) := by
        unfold at_
        rw [if_pos (by omega)]
        simp
      unfold argsAt
      rw [h3]; rfl
    rw [h1, nodeOf_enc hG he]
    exact args_iff hG _ (fun t ht => by have := (hG.wf.ok n _ he).args t ht; omega) hl

theorem share_rd {f : Nat} (hC : RdC f) {L : List Ent} (hG : Good L) {r R : List UInt8} {b : Bool} (hR : r.length + 1 ≤ R.length) (hl : L.length + 10 * R.length ≤ 1000000000) {q : RT} (h : ReadsShare (Reads f) L r b q) : Rd L R q (shareT (readT f) r b) := by
  obtain ⟨l, L1, r1, b1, m, h1, h2, rfl⟩ := h
  have hc := cntP_le r b
  have h0 := base_same hG (by omega) (cntP r b).1
  have hm0 := h0.more
  have i1 := terms_rd hC h0.good (by omega) h1
  have hn : l.length ≤ 8 := readsTerms_len h1
  have f1 : L1.length + 10 * r1.length ≤ (baseM L (bs (cntP r b).1)).2.length + 10 * (cntP r b).2.1.length := i1.few
  have l1 : r1.length ≤ (cntP r b).2.1.length := i1.le
  have t1 : TAts L1 l (termsT (readT f) 8 (cntP r b).2.1 (cntP r b).2.2).1 := i1.texts
  have g1 : Good L1 := i1.good
  have p1 : (baseM L (bs (cntP r b).1)).2 <+: L1 := i1.pre
  have hlt := t1.length
  obtain ⟨g, p, n, t⟩ := exps_same g1 (h0.is.pre g1 p1) t1 l.length m (Nat.le_refl _) (by omega) h2
  have hiff := argsAt_iff g t (TAts.pre g p t1)
  rw [hlt, List.take_length] at t hiff
  have e1 : (r1, b1) = (termsT (readT f) 8 (cntP r b).2.1 (cntP r b).2.2).2 := i1.rest
  have hp : L <+: m.2 := (h0.pre.trans p1).trans p
  unfold shareT
  by_cases ha : argsAt m.2 m.1 = l
  · rw [if_pos ha, if_pos (hiff.1 ha)]
    exact ⟨t, e1, g, hp, by show m.2.length + 10 * r1.length ≤ _; omega, by show r1.length ≤ _; omega⟩
  · rw [if_neg ha, if_neg (fun h => ha (hiff.2 h))]
    exact ⟨.inl ⟨rfl, rfl⟩, rfl, g, hp, by show m.2.length + 10 * 0 ≤ _; omega, Nat.zero_le _⟩

/-- Another term behind the first. -/
theorem Rd.then {f : Nat} (hC : RdC f) {L : List Ent} {R r : List UInt8} {b : Bool} {M : List Ent} (hG : Good M) (hf : M.length + 10 * r.length + 10 ≤ L.length + 10 * R.length) (hl : L.length + 10 * R.length ≤ 1000000000) {q : RT} (h : Reads f M r b q) :
    TAt q.2.1 q.1 (readT f r b).1 ∧ q.2.2 = (readT f r b).2 ∧ Good q.2.1 ∧ M <+: q.2.1 ∧ q.2.1.length + 10 * q.2.2.1.length + 10 ≤ L.length + 10 * R.length ∧ q.2.2.1.length ≤ r.length := by
  have i := hC M r b q hG (by omega) h
  exact ⟨i.text, i.rest, i.good, i.pre, by have := i.few; omega, i.le⟩

theorem read_rd : ∀ f, RdC f
  | 0 => fun L r b q hG hl h => h.elim
  | f + 1 => fun L R b q hG hl h => by
    have hC := read_rd f
    have hlt := octetP_lt R b
    have hle := (octetP_le R b)
    have h : ReadsKind (Reads f) (octetP R b).1 L (octetP R b).2.1 (octetP R b).2.2 q := h
    show Rd L R q (kindT (readT f) (octetP R b).1 (octetP R b).2.1 (octetP R b).2.2)
    generalize octetP R b = o at *
    obtain ⟨o, r, c⟩ := o
    simp only at h hlt hle ⊢
    unfold ReadsKind at h
    unfold kindT
    have hc := cntP_le r c
    have hu := u32P_le r c
    by_cases h1 : o = 241
    · rw [if_pos h1] at h ⊢
      subst h
      have := hlt (by omega)
      generalize cntP r c = u at *
      obtain ⟨s, r1, b1⟩ := u
      simp only at hc ⊢
      exact (data_same hG (by omega) _).rd (List.prefix_refl _) (by omega) (by omega)
    rw [if_neg h1] at h ⊢
    by_cases h2 : o = 242
    · rw [if_pos h2] at h ⊢
      obtain ⟨u, rfl, rfl⟩ := h
      have := hlt (by omega)
      have hu2 := u32P_le (u32P r c).2.1 (u32P r c).2.2
      generalize u32P (u32P r c).2.1 (u32P r c).2.2 = v at *
      obtain ⟨y, r1, b1⟩ := v
      simp only at hu2 ⊢
      exact (nonce_same hG (by omega) _ _).rd (List.prefix_refl _) (by omega) (by omega)
    rw [if_neg h2] at h ⊢
    by_cases h3 : o = 243
    · rw [if_pos h3] at h ⊢
      subst h
      have := hlt (by omega)
      generalize u32P r c = v at *
      obtain ⟨y, r1, b1⟩ := v
      simp only at hu ⊢
      exact (key_same hG (by omega) _).rd (List.prefix_refl _) (by omega) (by omega)
    rw [if_neg h3] at h ⊢
    by_cases h4 : o = 244
    · rw [if_pos h4] at h ⊢
      obtain ⟨k, L1, ⟨r1, b1⟩, h5, rfl⟩ := h
      have := hlt (by omega)
      obtain ⟨a1, a2, a3, a4, a5, a6⟩ := Rd.then hC (L := L) (R := R) hG (by omega) hl h5
      simp only at a1 a2 a3 a4 a5 a6
      rw [← a2]
      exact (pub_same a3 (by omega) a1).rd a4 (by omega) (by omega)
    rw [if_neg h4] at h ⊢
    by_cases h5 : o = 245
    · rw [if_pos h5] at h ⊢
      exact share_rd hC hG (hlt (by omega)) hl h
    rw [if_neg h5] at h ⊢
    by_cases h6 : o = 246
    · rw [if_pos h6] at h ⊢
      obtain ⟨k, L1, r1, b1, t, L2, ⟨r2, b2⟩, h7, h8, rfl⟩ := h
      have := hlt (by omega)
      obtain ⟨a1, a2, a3, a4, a5, a6⟩ := Rd.then hC (L := L) (R := R) hG (by omega) hl h7
      simp only at a1 a2 a3 a4 a5 a6
      obtain ⟨d1, d2, d3, d4, d5, d6⟩ := Rd.then hC (L := L) (R := R) a3 (by omega) hl h8
      simp only at d1 d2 d3 d4 d5 d6
      unfold signT
      rw [← a2, ← d2]
      exact (sign_same d3 (by omega) _ (a1.pre d3 d4) d1).rd (a4.trans d4) (by omega) (by omega)
    rw [if_neg h6] at h ⊢
    by_cases h7 : o = 247
    · rw [if_pos h7] at h ⊢
      obtain ⟨k, L1, ⟨r1, b1⟩, h5, rfl⟩ := h
      have := hlt (by omega)
      obtain ⟨a1, a2, a3, a4, a5, a6⟩ := Rd.then hC (L := L) (R := R) hG (by omega) hl h5
      simp only at a1 a2 a3 a4 a5 a6
      rw [← a2]
      exact (hash_same a3 (by omega) a1).rd a4 (by omega) (by omega)
    rw [if_neg h7] at h ⊢
    by_cases h8 : o = 248
    · rw [if_pos h8] at h ⊢
      obtain ⟨x, L1, r1, b1, y, L2, r2, b2, z, L3, ⟨r3, b3⟩, g1, g2, g3, rfl⟩ := h
      have := hlt (by omega)
      have ho := octetP_le r c
      obtain ⟨a1, a2, a3, a4, a5, a6⟩ := Rd.then hC (L := L) (R := R) hG (by omega) hl g1
      simp only at a1 a2 a3 a4 a5 a6
      obtain ⟨d1, d2, d3, d4, d5, d6⟩ := Rd.then hC (L := L) (R := R) a3 (by omega) hl g2
      simp only at d1 d2 d3 d4 d5 d6
      obtain ⟨e1, e2, e3, e4, e5, e6⟩ := Rd.then hC (L := L) (R := R) d3 (by omega) hl g3
      simp only at e1 e2 e3 e4 e5 e6
      unfold deriveT
      simp only
      rw [← a2, ← d2, ← e2]
      have hs := derive_same e3 (by omega) (UInt8.ofNat (octetP r c).1) ((a1.pre d3 d4).pre e3 e4) (d1.pre e3 e4) e1
      have hn : (UInt8.ofNat (octetP r c).1).toNat = (octetP r c).1 := by
        rw [UInt8.toNat_ofNat']; omega
      rw [hn] at hs
      exact hs.rd ((a4.trans d4).trans e4) (by omega) (by omega)
    rw [if_neg h8] at h ⊢
    by_cases h9 : o = 249
    · rw [if_pos h9] at h ⊢
      obtain ⟨k, L1, r1, b1, t, L2, ⟨r2, b2⟩, g1, g2, rfl⟩ := h
      have := hlt (by omega)
      have hn := u32P_lt r c
      obtain ⟨a1, a2, a3, a4, a5, a6⟩ := Rd.then hC (L := L) (R := R) hG (by omega) hl g1
      simp only at a1 a2 a3 a4 a5 a6
      obtain ⟨d1, d2, d3, d4, d5, d6⟩ := Rd.then hC (L := L) (R := R) a3 (by omega) hl g2
      simp only at d1 d2 d3 d4 d5 d6
      unfold sealT
      rw [← a2, ← d2]
      exact (seal_same d3 (by omega) _ hn (a1.pre d3 d4) d1).rd (a4.trans d4) (by omega) (by omega)
    rw [if_neg h9] at h ⊢
    by_cases h10 : o = 250
    · rw [if_pos h10] at h ⊢
      obtain ⟨l, L1, ⟨r1, b1⟩, g1, rfl⟩ := h
      have := hlt (by omega)
      obtain ⟨a1, a2, a3, a4, a5, a6⟩ := terms_rd hC hG (by omega) g1
      simp only at a1 a2 a3 a4 a5 a6
      rw [← a2]
      exact (list_same a3 (by omega) a1).rd a4 (by omega) (by omega)
    rw [if_neg h10] at h ⊢
    subst h
    exact ⟨.inl ⟨rfl, rfl⟩, rfl, hG, List.prefix_refl _, by show L.length + 10 * 0 ≤ _; omega, Nat.zero_le _⟩
end Go.Proofs.YtlalkpgipenkaaaGreatDoor

namespace Go.Proofs.YtlalkpgipenkaaaGreatDoor
open Go.RowKit

theorem takeP_snd {n : Nat} {r : List UInt8} {b : Bool} (h : (takeP n r b).2.2 = false) : b = false ∧ r = (takeP n r b).1 ++ (takeP n r b).2.1 ∧ (takeP n r b).1.length = n := by
  unfold takeP at h ⊢
  split at h
  · rename_i hn
    rw [if_pos hn]
    exact ⟨h, (List.take_append_drop n r).symm, by simp; omega⟩
  · cases h
theorem u32P_snd {r : List UInt8} {b : Bool} (h : (u32P r b).2.2 = false) : b = false ∧ r = pack4 (u32P r b).1 ++ (u32P r b).2.1 := by
  have h1 := takeP_snd (n := 4) (r := r) (b := b)
  unfold u32P at h ⊢
  generalize takeP 4 r b = q at *
  obtain ⟨s, r', b'⟩ := q
  simp only at h h1 ⊢
  subst h
  obtain ⟨h2, h3, h4⟩ := h1 rfl
  refine ⟨h2, ?_⟩
  rw [if_neg (by simp), pack_num4 h4]
  exact h3
theorem cntP_snd {r : List UInt8} {b : Bool} (h : (cntP r b).2.2 = false) : b = false ∧ r = pack4 (cntP r b).1.length ++ (cntP r b).1 ++ (cntP r b).2.1 := by
  have h1 := u32P_snd (r := r) (b := b)
  unfold cntP at h ⊢
  obtain ⟨h2, h3, h4⟩ := takeP_snd h
  obtain ⟨h5, h6⟩ := h1 h2
  refine ⟨h5, ?_⟩
  rw [h4, List.append_assoc, ← h3]
  exact h6
theorem octetP_snd {r : List UInt8} {b : Bool} (h : (octetP r b).2.2 = false) : b = false ∧ r = UInt8.ofNat (octetP r b).1 :: (octetP r b).2.1 := by
  cases r with
  | nil => cases h
  | cons x l =>
    cases b with
    | true => cases h
    | false => exact ⟨rfl, by show x :: l = UInt8.ofNat x.toNat :: l; simp⟩

/-- What is not bad was read off the front. -/
def Snd (r : List UInt8) (b : Bool) (t : TT) : Prop := t.2.2 = false → b = false ∧ (t.1 ≠ [] → r = t.1 ++ t.2.1)
def SndC (f : Nat) : Prop := ∀ (L : List Ent) (r : List UInt8) (b : Bool) (q : RT), Good L → L.length + 10 * r.length ≤ 1000000000 → Reads f L r b q → Snd r b (readT f r b)
theorem many_snd {f : Nat} (hC : RdC f) (hS : SndC f) {L : List Ent} (hG : Good L) {r : List UInt8} {b : Bool} (hl : L.length + 10 * r.length ≤ 1000000000) : ∀ (n : Nat) (l : List Int) (p : List Ent × List UInt8 × Bool), ReadsMany (Reads f) L r b n l p → (manyT (readT f) r b n).2.2 = false → b = false ∧ (manyT (readT f) r b n).1.length = n ∧ ((∀ x ∈ (manyT (readT f) r b n).1, x ≠ []) → r = (manyT (readT f) r b n).1.flatten ++ (manyT (readT f) r b n).2.1)
  | 0, _, _, _, h => ⟨h, rfl, fun _ => rfl⟩
  | n + 1, l, p, hm, h => by
    obtain ⟨l0, L0, r0, b0, id, g1, g2, rfl⟩ := hm
    have j := many_rd hC hG hl n _ _ g1
    have e1 : (r0, b0) = (manyT (readT f) r b n).2 := j.rest
    have hs := hS L0 r0 b0 _ j.good (by have : L0.length + 10 * r0.length ≤ _ := j.few; omega) g2
    have i := many_snd hC hS hG hl n _ _ g1
    have e2 : r0 = (manyT (readT f) r b n).2.1 := by rw [← e1]
    have e3 : b0 = (manyT (readT f) r b n).2.2 := by rw [← e1]
    rw [e2, e3] at hs
    obtain ⟨h1, h2⟩ := hs h
    obtain ⟨h3, h4, h5⟩ := i h1
    refine ⟨h3, ?_, fun hx => ?_⟩
    · show ((manyT (readT f) r b n).1 ++ [_]).length = n + 1
      simp [h4]
    · have e1 := h5 fun x hx' => hx x (List.mem_append_left _ hx')
      have e2 := h2 (hx _ (List.mem_append_right _ (List.mem_singleton.2 rfl)))
      show r = ((manyT (readT f) r b n).1 ++ [_]).flatten ++ _
      rw [List.flatten_append, List.flatten_singleton, List.append_assoc]
      rw [e2] at e1
      exact e1
theorem terms_snd {f : Nat} (hC : RdC f) (hS : SndC f) {limit : Nat} {L : List Ent} (hG : Good L) {r : List UInt8} {b : Bool} (hl : L.length + 10 * r.length ≤ 1000000000) {l : List Int} {p : List Ent × List UInt8 × Bool} (hm : ReadsTerms (Reads f) limit L r b l p) (h : (termsT (readT f) limit r b).2.2 = false) : b = false ∧ ((∀ x ∈ (termsT (readT f) limit r b).1, x ≠ []) → r = pack4 (termsT (readT f) limit r b).1.length ++ (termsT (readT f) limit r b).1.flatten ++ (termsT (readT f) limit r b).2.1) := by
  have hu := u32P_snd (r := r) (b := b)
  have hle := u32P_le r b
  unfold ReadsTerms at hm
  unfold termsT at h ⊢
  split at h
  · cases h
  · rename_i h0
    rw [if_neg h0] at hm ⊢
    obtain ⟨h1, h2, h3⟩ := many_snd hC hS hG (by omega) _ _ _ hm h
    obtain ⟨h4, h5⟩ := hu h1
    refine ⟨h4, fun hx => ?_⟩
    rw [h2, List.append_assoc, ← h3 hx]
    exact h5

/-- A share of the group g, or none. -/
def Grp (L : List Ent) (g : ByteArray) (s : Int) : Prop := s = -1 ∨ ∃ (n : Nat) (e : Ent) (d : List Nat), s = n ∧ L[n]? = some e ∧ e.sh = ⟨5, 0, 0, g, d⟩
theorem Grp.pre {L M : List Ent} {g : ByteArray} {s : Int} (h : Grp L g s) (hp : L <+: M) : Grp M g s := by
  rcases h with h | ⟨n, e, d, h1, h2, h3⟩
  · exact .inl h
  · obtain ⟨r, rfl⟩ := hp
    exact .inr ⟨n, e, d, h1, by rw [List.getElem?_append_left (List.getElem?_eq_some_iff.1 h2).1]; exact h2, h3⟩
theorem built_grp (L : List Ent) (g : ByteArray) (own : Nat) (l : List Int) : Grp (built L ⟨5, 0, 0, g⟩ own l).2 g (built L ⟨5, 0, 0, g⟩ own l).1 := by
  unfold built
  split
  · obtain ⟨x, h1, h2⟩ := found_at L ⟨Hd.with ⟨5, 0, 0, g⟩ (l.map Int.toNat), own + g.size + sizes L l⟩
    exact .inr ⟨_, x, _, rfl, h1, h2⟩
  · exact .inl rfl
theorem base_grp (L : List Ent) (g : ByteArray) : Grp (baseM L g).2 g (baseM L g).1 := by
  unfold baseM
  split
  · exact built_grp _ _ _ _
  · exact .inl rfl
theorem exp_grp {L : List Ent} {g : ByteArray} {s x : Int} (h : Grp L g s) {m : Int × List Ent} (hm : ExpTo L s x m) : Grp m.2 g m.1 := by
  unfold ExpTo at hm
  split at hm
  · rename_i hk
    obtain ⟨e, he, hm⟩ := hm
    rcases h with rfl | ⟨n, e', d, rfl, h2, h3⟩
    · exact absurd hk.1 (by rw [kindAt_neg]; decide)
    · rw [at_nat, h2] at he
      injection he with he
      subst he
      rw [h3] at hm
      simp only at hm
      split at hm
      · obtain ⟨d', _, _, rfl⟩ := hm
        exact built_grp _ _ _ _
      · subst hm; exact .inl rfl
  · subst hm; exact .inl rfl
theorem exps_grp {L : List Ent} {g : ByteArray} {s : Int} (h : Grp L g s) {l : List Int} : ∀ (k : Nat) (m : Int × List Ent), ExpsTo L s l k m → Grp m.2 g m.1
  | 0, m, h0 => by
    have h0 : m = (s, L) := h0
    subst h0; exact h
  | k + 1, m, h0 => by
    obtain ⟨m0, h1, h2⟩ := h0
    exact exp_grp (exps_grp h k m0 h1) h2

theorem join_245 {r A B C D E Q : List UInt8} (h1 : r = A ++ B ++ Q) (h2 : Q = C ++ D ++ E) : 245 :: r = ((245 :: (A ++ B ++ C)) ++ D) ++ E := by
  subst h2; subst h1; simp

/-- The text of a share that was read. -/
theorem share_text {f : Nat} (hC : RdC f) (hS : SndC f) {L : List Ent} (hG : Good L) {r : List UInt8} {b : Bool} (hl : L.length + 10 * r.length + 10 ≤ 1000000000) {q : RT} (h : ReadsShare (Reads f) L r b q) (hb : (shareT (readT f) r b).2.2 = false) :
    b = false ∧ ((shareT (readT f) r b).1 ≠ [] → 245 :: r = (shareT (readT f) r b).1 ++ (shareT (readT f) r b).2.1) := by
  obtain ⟨l, L1, r1, b1, m, h1, h2, rfl⟩ := h
  have hc := cntP_le r b
  have h0 := base_same hG (by omega) (cntP r b).1
  have hm0 := h0.more
  have i1 := terms_rd hC h0.good (by omega) h1
  have hn : l.length ≤ 8 := readsTerms_len h1
  have f1 : L1.length + 10 * r1.length ≤ (baseM L (bs (cntP r b).1)).2.length + 10 * (cntP r b).2.1.length := i1.few
  have t1 : TAts L1 l (termsT (readT f) 8 (cntP r b).2.1 (cntP r b).2.2).1 := i1.texts
  have g1 : Good L1 := i1.good
  have p1 : (baseM L (bs (cntP r b).1)).2 <+: L1 := i1.pre
  have hlt := t1.length
  obtain ⟨g, p, n, t⟩ := exps_same g1 (h0.is.pre g1 p1) t1 l.length m (Nat.le_refl _) (by omega) h2
  have hgr : Grp m.2 (bs (cntP r b).1) m.1 := exps_grp ((base_grp L _).pre p1) _ _ h2
  rw [hlt, List.take_length] at t
  have hcs := cntP_snd (r := r) (b := b)
  have hts := terms_snd hC hS h0.good (by omega) h1
  unfold shareT at hb ⊢
  split at hb
  · rename_i ha
    rw [if_pos ha]
    obtain ⟨h3, h4⟩ := hts hb
    obtain ⟨h5, h6⟩ := hcs h3
    refine ⟨h5, fun hne => ?_⟩
    generalize (termsT (readT f) 8 (cntP r b).2.1 (cntP r b).2.2).1.foldl refExpL (refBaseL (cntP r b).1) = U at *
    rcases t with ⟨_, rfl⟩ | ⟨k, hk, hkl, rfl⟩
    · exact absurd rfl hne
    · rcases hgr with hgr | ⟨k', e, d, hk', he, hsh⟩
      · omega
      · have : k = k' := by omega
        subst this
        rw [nodeOf_enc g he] at ha
        have ha : e.sh.args.map (enc m.2) = _ := ha
        have hlts : ∀ x ∈ e.sh.args, x < m.2.length := fun x hx => by have := (g.wf.ok k e he).args x hx; omega
        have hnn : ∀ x ∈ (termsT (readT f) 8 (cntP r b).2.1 (cntP r b).2.2).1, x ≠ [] := fun x hx => by
          rw [← ha] at hx
          obtain ⟨y, hy, rfl⟩ := List.mem_map.1 hx
          exact enc_ne g (hlts y hy)
        have h7 := h4 hnn
        have h8 : (termsT (readT f) 8 (cntP r b).2.1 (cntP r b).2.2).1.length = e.sh.args.length := by rw [← ha]; simp
        rw [g.enc_eq he, ha]
        have hh : headL e.sh = 245 :: (pack4 (cntP r b).1.length ++ (cntP r b).1 ++ pack4 e.sh.args.length) := by
          rw [hsh]
          simp [headL, cnt, bs_data]
        rw [hh, ← h8]
        exact join_245 h6 h7
  · cases hb

theorem fits_ne {l : List UInt8} (h : fitsL l ≠ []) : fitsL l = l := by
  unfold fitsL at h ⊢
  split at h
  · exact absurd rfl h
  · rename_i h0; rw [if_neg h0]
theorem if_ne {c : Prop} [Decidable c] {l : List UInt8} (h : (if c then l else []) ≠ []) : (if c then l else []) = l ∧ c := by
  split at h
  · rename_i h0; exact ⟨if_pos h0, h0⟩
  · exact absurd rfl h

theorem join_a {t : UInt8} {r A Q : List UInt8} (h : r = A ++ Q) : t :: r = ([t] ++ A) ++ Q := by subst h; simp
theorem join_ab {t : UInt8} {r A B Q : List UInt8} (h : r = A ++ B ++ Q) : t :: r = ([t] ++ A ++ B) ++ Q := by subst h; simp
theorem join_2 {t : UInt8} {r A B P Q : List UInt8} (h : r = A ++ P) (h1 : P = B ++ Q) : t :: r = ([t] ++ A ++ B) ++ Q := by subst h1; subst h; simp
theorem join_3 {t : UInt8} {r A B C P Q S : List UInt8} (h : r = A ++ P) (h1 : P = B ++ Q) (h2 : Q = C ++ S) : t :: r = ([t] ++ A ++ B ++ C) ++ S := by subst h2; subst h1; subst h; simp
theorem join_4 {t : UInt8} {r A B C D P Q S : List UInt8} (h : r = A ++ B ++ P) (h1 : P = C ++ Q) (h2 : Q = D ++ S) : t :: r = ([t] ++ A ++ B ++ C ++ D) ++ S := by subst h2; subst h1; subst h; simp
theorem join_5 {t c : UInt8} {r A B C O P Q S : List UInt8} (h : r = c :: O) (h0 : O = A ++ P) (h1 : P = B ++ Q) (h2 : Q = C ++ S) : t :: r = ([t] ++ [c] ++ A ++ B ++ C) ++ S := by subst h2; subst h1; subst h0; subst h; simp
theorem kind_ne {k : List UInt8} {n : Nat} (h : kindL k = n) (hn : n ≠ 0) : k ≠ [] := fun e => by subst e; exact hn h.symm
theorem read_snd : ∀ f, SndC f
  | 0 => fun L r b q hG hl h => h.elim
  | f + 1 => fun L R b q hG hl h => by
    have hC := read_rd f
    have hS := read_snd f
    have hlt := octetP_lt R b
    have ho := octetP_snd (r := R) (b := b)
    have h : ReadsKind (Reads f) (octetP R b).1 L (octetP R b).2.1 (octetP R b).2.2 q := h
    show Snd R b (kindT (readT f) (octetP R b).1 (octetP R b).2.1 (octetP R b).2.2)
    generalize octetP R b = o at *
    obtain ⟨o, r, c⟩ := o
    simp only at h hlt ho ⊢
    unfold ReadsKind at h
    unfold kindT
    have hc := cntP_snd (r := r) (b := c)
    have hu := u32P_snd (r := r) (b := c)
    by_cases h1 : o = 241
    · rw [if_pos h1] at h ⊢
      subst h1
      intro hb
      obtain ⟨e1, e2⟩ := hc hb
      obtain ⟨e3, e4⟩ := ho e1
      refine ⟨e3, fun hne => ?_⟩
      simp only at hne ⊢
      have hT : refDataL (cntP r c).1 = tagL 1 ++ pack4 (cntP r c).1.length ++ (cntP r c).1 := by
        unfold refDataL at hne ⊢
        split at hne
        · exact absurd rfl hne
        · rename_i h0
          rw [if_neg h0]
          exact fits_ne hne
      rw [hT]
      exact e4.trans (join_ab e2)
    rw [if_neg h1] at h ⊢
    by_cases h2 : o = 242
    · rw [if_pos h2] at h ⊢
      subst h2
      intro hb
      obtain ⟨e1, e2⟩ := u32P_snd hb
      obtain ⟨e3, e4⟩ := hu e1
      obtain ⟨e5, e6⟩ := ho e3
      refine ⟨e5, fun hne => ?_⟩
      simp only at hne ⊢
      obtain ⟨hT, hn⟩ := if_ne hne
      have hT' : refNonceL _ _ = _ := hT
      rw [hT']
      exact e6.trans (join_2 e4 e2)
    rw [if_neg h2] at h ⊢
    by_cases h3 : o = 243
    · rw [if_pos h3] at h ⊢
      subst h3
      intro hb
      obtain ⟨e3, e4⟩ := hu hb
      obtain ⟨e5, e6⟩ := ho e3
      refine ⟨e5, fun hne => ?_⟩
      simp only at hne ⊢
      obtain ⟨hT, hn⟩ := if_ne hne
      have hT' : refKeyL _ = _ := hT
      rw [hT']
      exact e6.trans (join_a e4)
    rw [if_neg h3] at h ⊢
    by_cases h4 : o = 244
    · rw [if_pos h4] at h ⊢
      subst h4
      obtain ⟨k, L1, p, h5, rfl⟩ := h
      have := hlt (by omega)
      have s1 := hS L r c _ hG (by omega) h5
      intro hb
      obtain ⟨e3, e4⟩ := s1 hb
      obtain ⟨e5, e6⟩ := ho e3
      refine ⟨e5, fun hne => ?_⟩
      simp only at hne ⊢
      obtain ⟨hT, hn⟩ := if_ne hne
      have hT' : refPubL _ = _ := hT
      rw [hT']
      exact e6.trans (join_a (e4 (kind_ne hn (by decide))))
    rw [if_neg h4] at h ⊢
    by_cases h5 : o = 245
    · rw [if_pos h5] at h ⊢
      subst h5
      have := hlt (by omega)
      intro hb
      obtain ⟨e3, e4⟩ := share_text hC hS hG (by omega) h hb
      obtain ⟨e5, e6⟩ := ho e3
      exact ⟨e5, fun hne => e6.trans (e4 hne)⟩
    rw [if_neg h5] at h ⊢
    by_cases h6 : o = 246
    · rw [if_pos h6] at h ⊢
      subst h6
      obtain ⟨k, L1, r1, b1, t, L2, p, h7, h8, rfl⟩ := h
      have := hlt (by omega)
      have hcl := cntP_le r c
      obtain ⟨a1, a2, a3, a4, a5, a6⟩ := Rd.then hC (L := L) (R := R) hG (by omega) hl h7
      simp only at a1 a2 a3 a4 a5 a6
      have s1 := hS L _ _ _ hG (by omega) h7
      have s2 := hS L1 _ _ _ a3 (by omega) h8
      unfold signT
      have q1 : r1 = (readT f (cntP r c).2.1 (cntP r c).2.2).2.1 := by rw [← a2]
      have q2 : b1 = (readT f (cntP r c).2.1 (cntP r c).2.2).2.2 := by rw [← a2]
      rw [q1, q2] at s2
      intro hb
      obtain ⟨e1, e2⟩ := s2 hb
      obtain ⟨e3, e4⟩ := s1 e1
      obtain ⟨e5, e6⟩ := hc e3
      obtain ⟨e7, e8⟩ := ho e5
      refine ⟨e7, fun hne => ?_⟩
      simp only at hne ⊢
      obtain ⟨hT, hn⟩ := if_ne hne
      have hT' : refSignL _ _ _ = _ := hT
      rw [hT'] at hne ⊢
      rw [fits_ne hne]
      exact e8.trans (join_4 e6 (e4 (kind_ne hn.2.1 (by decide))) (e2 hn.2.2))
    rw [if_neg h6] at h ⊢
    by_cases h7 : o = 247
    · rw [if_pos h7] at h ⊢
      subst h7
      obtain ⟨k, L1, p, h5, rfl⟩ := h
      have := hlt (by omega)
      have s1 := hS L r c _ hG (by omega) h5
      intro hb
      obtain ⟨e3, e4⟩ := s1 hb
      obtain ⟨e5, e6⟩ := ho e3
      refine ⟨e5, fun hne => ?_⟩
      simp only at hne ⊢
      have hn : (readT f r c).1 ≠ [] := fun e => hne (by unfold refHashL; rw [if_pos e])
      have hT' : refHashL (readT f r c).1 = _ := if_neg hn
      rw [hT'] at hne ⊢
      rw [fits_ne hne]
      exact e6.trans (join_a (e4 hn))
    rw [if_neg h7] at h ⊢
    by_cases h8 : o = 248
    · rw [if_pos h8] at h ⊢
      subst h8
      obtain ⟨x, L1, r1, b1, y, L2, r2, b2, z, L3, p, g1, g2, g3, rfl⟩ := h
      have := hlt (by omega)
      have hol := octetP_le r c
      have hos := octetP_snd (r := r) (b := c)
      obtain ⟨a1, a2, a3, a4, a5, a6⟩ := Rd.then hC (L := L) (R := R) hG (by omega) hl g1
      simp only at a1 a2 a3 a4 a5 a6
      obtain ⟨d1, d2, d3, d4, d5, d6⟩ := Rd.then hC (L := L) (R := R) a3 (by omega) hl g2
      simp only at d1 d2 d3 d4 d5 d6
      have s1 := hS L _ _ _ hG (by omega) g1
      have s2 := hS L1 _ _ _ a3 (by omega) g2
      have s3 := hS L2 _ _ _ d3 (by omega) g3
      have q1 : r1 = (readT f (octetP r c).2.1 (octetP r c).2.2).2.1 := by rw [← a2]
      have q2 : b1 = (readT f (octetP r c).2.1 (octetP r c).2.2).2.2 := by rw [← a2]
      have q3 : r2 = (readT f r1 b1).2.1 := by rw [← d2]
      have q4 : b2 = (readT f r1 b1).2.2 := by rw [← d2]
      rw [q3, q4] at s3
      rw [q1, q2] at s2 s3
      unfold deriveT
      intro hb
      obtain ⟨e1, e2⟩ := s3 hb
      obtain ⟨e3, e4⟩ := s2 e1
      obtain ⟨e5, e6⟩ := s1 e3
      obtain ⟨e7, e8⟩ := hos e5
      obtain ⟨e9, e10⟩ := ho e7
      refine ⟨e9, fun hne => ?_⟩
      simp only at hne ⊢
      obtain ⟨hT, hn⟩ := if_ne hne
      have hT' : refDeriveL _ _ _ _ = _ := hT
      rw [hT'] at hne ⊢
      rw [fits_ne hne]
      exact e10.trans (join_5 e8 (e6 hn.1) (e4 hn.2.1) (e2 hn.2.2))
    rw [if_neg h8] at h ⊢
    by_cases h9 : o = 249
    · rw [if_pos h9] at h ⊢
      subst h9
      obtain ⟨k, L1, r1, b1, t, L2, p, h7, h8, rfl⟩ := h
      have := hlt (by omega)
      have hcl := u32P_le r c
      obtain ⟨a1, a2, a3, a4, a5, a6⟩ := Rd.then hC (L := L) (R := R) hG (by omega) hl h7
      simp only at a1 a2 a3 a4 a5 a6
      have s1 := hS L _ _ _ hG (by omega) h7
      have s2 := hS L1 _ _ _ a3 (by omega) h8
      unfold sealT
      have q1 : r1 = (readT f (u32P r c).2.1 (u32P r c).2.2).2.1 := by rw [← a2]
      have q2 : b1 = (readT f (u32P r c).2.1 (u32P r c).2.2).2.2 := by rw [← a2]
      rw [q1, q2] at s2
      intro hb
      obtain ⟨e1, e2⟩ := s2 hb
      obtain ⟨e3, e4⟩ := s1 e1
      obtain ⟨e5, e6⟩ := hu e3
      obtain ⟨e7, e8⟩ := ho e5
      refine ⟨e7, fun hne => ?_⟩
      simp only at hne ⊢
      obtain ⟨hT, hn⟩ := if_ne hne
      have hT' : refSealL _ _ _ = _ := hT
      rw [hT'] at hne ⊢
      rw [fits_ne hne]
      exact e8.trans (join_3 e6 (e4 hn.1) (e2 hn.2))
    rw [if_neg h9] at h ⊢
    by_cases h10 : o = 250
    · rw [if_pos h10] at h ⊢
      subst h10
      obtain ⟨l, L1, p, g1, rfl⟩ := h
      have := hlt (by omega)
      intro hb
      obtain ⟨e1, e2⟩ := terms_snd hC hS hG (by omega) g1 hb
      obtain ⟨e3, e4⟩ := ho e1
      refine ⟨e3, fun hne => ?_⟩
      simp only at hne ⊢
      obtain ⟨hT, hn⟩ := if_ne hne
      have hT' : refListL _ = _ := hT
      rw [hT']
      exact e4.trans (join_ab (e2 hn.2.1))
    rw [if_neg h10] at h ⊢
    intro hb
    cases hb
end Go.Proofs.YtlalkpgipenkaaaGreatDoor

namespace Go.Proofs.YtlalkpgipenkaaaGreatDoor
open Go.RowKit

theorem kindN_at {L : List Ent} {n : Nat} {e : Ent} (he : L[n]? = some e) : kindN L n = e.sh.kind := by unfold kindN; rw [he]; rfl
theorem pre_at {L M : List Ent} (hp : L <+: M) {n : Nat} {e : Ent} (he : L[n]? = some e) : M[n]? = some e := by
  obtain ⟨r, rfl⟩ := hp
  rw [List.getElem?_append_left (List.getElem?_eq_some_iff.1 he).1]; exact he
theorem kind_data {rd : List Ent → List UInt8 → Bool → RT → Prop} {L : List Ent} {r : List UInt8} {b : Bool} {q : RT} (h : q = ((dataM L (bs (cntP r b).1)).1, (dataM L (bs (cntP r b).1)).2, (cntP r b).2)) : ReadsKind rd 241 L r b q := h
theorem kind_nonce {rd : List Ent → List UInt8 → Bool → RT → Prop} {L : List Ent} {r : List UInt8} {b : Bool} {q : RT} (h : ∃ u, u = u32P (u32P r b).2.1 (u32P r b).2.2 ∧ q = ((nonceM L (u32P r b).1 u.1).1, (nonceM L (u32P r b).1 u.1).2, u.2)) : ReadsKind rd 242 L r b q := h
theorem kind_key {rd : List Ent → List UInt8 → Bool → RT → Prop} {L : List Ent} {r : List UInt8} {b : Bool} {q : RT} (h : q = ((keyM L (u32P r b).1).1, (keyM L (u32P r b).1).2, (u32P r b).2)) : ReadsKind rd 243 L r b q := h
theorem kind_pub {rd : List Ent → List UInt8 → Bool → RT → Prop} {L : List Ent} {r : List UInt8} {b : Bool} {q : RT} (h : ∃ k L1 p, rd L r b (k, L1, p) ∧ q = ((pubM L1 k).1, (pubM L1 k).2, p)) : ReadsKind rd 244 L r b q := h
theorem kind_sign {rd : List Ent → List UInt8 → Bool → RT → Prop} {L : List Ent} {r : List UInt8} {b : Bool} {q : RT} (h : ∃ k L1 r1 b1 t L2 p, rd L (cntP r b).2.1 (cntP r b).2.2 (k, L1, r1, b1) ∧ rd L1 r1 b1 (t, L2, p) ∧ q = ((signM L2 (bs (cntP r b).1) k t).1, (signM L2 (bs (cntP r b).1) k t).2, p)) : ReadsKind rd 246 L r b q := h
theorem kind_hash {rd : List Ent → List UInt8 → Bool → RT → Prop} {L : List Ent} {r : List UInt8} {b : Bool} {q : RT} (h : ∃ t L1 p, rd L r b (t, L1, p) ∧ q = ((hashM L1 t).1, (hashM L1 t).2, p)) : ReadsKind rd 247 L r b q := h
theorem kind_list {rd : List Ent → List UInt8 → Bool → RT → Prop} {L : List Ent} {r : List UInt8} {b : Bool} {q : RT} (h : ∃ l L1 p, ReadsTerms rd 32 L r b l (L1, p) ∧ q = ((listM L1 l).1, (listM L1 l).2, p)) : ReadsKind rd 250 L r b q := h
theorem kind_seal {rd : List Ent → List UInt8 → Bool → RT → Prop} {L : List Ent} {r : List UInt8} {b : Bool} {q : RT} (h : ∃ k L1 r1 b1 t L2 p, rd L (u32P r b).2.1 (u32P r b).2.2 (k, L1, r1, b1) ∧ rd L1 r1 b1 (t, L2, p) ∧ q = ((sealM L2 k (u32P r b).1 t).1, (sealM L2 k (u32P r b).1 t).2, p)) : ReadsKind rd 249 L r b q := h
theorem kind_share {rd : List Ent → List UInt8 → Bool → RT → Prop} {L : List Ent} {r : List UInt8} {b : Bool} {q : RT} (h : ReadsShare rd L r b q) : ReadsKind rd 245 L r b q := h
theorem kind_derive {rd : List Ent → List UInt8 → Bool → RT → Prop} {L : List Ent} {r : List UInt8} {b : Bool} {q : RT} (h : ∃ x L1 r1 b1 y L2 r2 b2 z L3 p, rd L (octetP r b).2.1 (octetP r b).2.2 (x, L1, r1, b1) ∧ rd L1 r1 b1 (y, L2, r2, b2) ∧ rd L2 r2 b2 (z, L3, p) ∧
    q = ((deriveM L3 (octetP r b).1 x y z).1, (deriveM L3 (octetP r b).1 x y z).2, p)) : ReadsKind rd 248 L r b q := h

/-- The exponents of a share that is there, one behind the other. -/
theorem exps_back {L : List Ent} (hG : Good L) {s : ByteArray} {args : List Nat} (hk : ∀ t ∈ args, kindN L t = 2) (h8 : args.length ≤ 8) (hs : Sorted L args) {i : Nat} {e0 : Ent} (h0 : L[i]? = some e0) (hsh : e0.sh = ⟨5, 0, 0, s, []⟩) (hlen : L.length + 8 < 1073741824) :
    ∀ k, k ≤ args.length → ∃ (j : Nat) (M : List Ent) (e : Ent), ExpsTo L i (args.map Int.ofNat) k ((j : Int), M) ∧ Good M ∧ L <+: M ∧ M.length ≤ L.length + k ∧ M[j]? = some e ∧ e.sh = ⟨5, 0, 0, s, args.take k⟩
  | 0, _ => ⟨i, L, e0, rfl, hG, List.prefix_refl _, Nat.le_refl _, h0, hsh⟩
  | k + 1, hkl => by
    obtain ⟨j, M, e, h1, h2, h3, h4, h5, h6⟩ := exps_back hG hk h8 hs h0 hsh hlen k (by omega)
    have hlt : k < args.length := by omega
    have hkM : ∀ t ∈ args, kindN M t = 2 := fun t ht => by rw [kindN_pre h3 (kindN_lt (by rw [hk t ht]; decide)), hk t ht]
    have hx := hkM _ (List.getElem_mem hlt)
    have hsM : Sorted M args := hs.pre h3 fun t ht => kindN_lt (by rw [hk t ht]; decide)
    have hst : Sorted M (args.take (k + 1)) := List.Pairwise.sublist (List.take_sublist _ _) hsM
    have hperm : (args.take (k + 1)).Perm (args.take k ++ [args[k]]) := by rw [List.take_succ_eq_append_getElem hlt]
    have hgd : (args.map Int.ofNat).getD k (-1) = (args[k] : Int) := by simp [hlt]
    have hto : ExpTo M j (args[k] : Int) (built M ⟨5, 0, 0, s⟩ 9 ((args.take (k + 1)).map Int.ofNat)) := by
      unfold ExpTo
      have hkj : kindAt M (j : Int) = 5 := by rw [kindAt_nat]; simp [kindN, h5, h6]
      have hkx : kindAt M (args[k] : Int) = 2 := by rw [kindAt_nat, hx]; rfl
      rw [if_pos ⟨hkj, hkx⟩]
      refine ⟨e, by rw [at_nat]; exact h5, ?_⟩
      rw [h6]
      simp only
      rw [if_pos (by simp; omega)]
      exact ⟨args.take (k + 1), hperm, hst, rfl⟩
    obtain ⟨d, d1, d2, d3⟩ := exp_got h2 (by omega) h5 h6 hx (by simp; omega) hto
    have hkm : ∀ t ∈ args.take k ++ [args[k]], kindN M t = 2 := fun t ht => hkM t (by
      rw [← List.take_succ_eq_append_getElem hlt] at ht
      exact List.mem_of_mem_take ht)
    have hd : d = args.take (k + 1) := sorted_one h2 hkm d1 hperm d2 hst
    subst hd
    have hml := d3.len
    obtain ⟨j', e', h7, h8', h9, _⟩ := d3.at_
    refine ⟨j', _, e', ⟨((j : Int), M), h1, ?_⟩, d3.good, h3.trans d3.pre, by omega, h8', h9⟩
    rw [hgd, ← h7]
    exact hto

end Go.Proofs.YtlalkpgipenkaaaGreatDoor

namespace Go.Proofs.YtlalkpgipenkaaaGreatDoor
open Go.RowKit

/-- What is decoded has just these bytes. -/
theorem dec_ok {L : List Ent} (hG : Good L) {f : Nat} {s : List UInt8} (hl : L.length + 10 * s.length ≤ 1000000000) {q : RT} (h : Reads f L s false q) (hq : q.2.2.2 = false ∧ q.2.2.1 = [] ∧ q.1 ≠ -1) :
    ∃ j : Nat, q.1 = j ∧ j < q.2.1.length ∧ s = enc q.2.1 j := by
  have hr := read_rd f L _ _ _ hG hl h
  have hs := read_snd f L _ _ _ hG hl h
  have he := hr.rest
  rcases hr.text with ⟨h1, _⟩ | ⟨k, h1, h2, h3⟩
  · exact absurd h1 hq.2.2
  · refine ⟨k, h1, h2, ?_⟩
    obtain ⟨_, h5⟩ := hs (by rw [← he]; exact hq.1)
    have h6 := h5 (by rw [h3]; exact enc_ne hr.good h2)
    rw [← he, hq.2.1, List.append_nil, h3] at h6
    exact h6

end Go.Proofs.YtlalkpgipenkaaaGreatDoor

namespace Go.Proofs.YtlalkpgipenkaaaGreatDoor
open Go.RowKit

theorem drop_cons {d : List UInt8} {e : Nat} (h : e < d.length) : d.drop e = d.getD e 0 :: d.drop (e + 1) := by
  rw [List.drop_eq_getElem_cons h]
  simp [h]
theorem octet_rd {d : List UInt8} {e : Nat} (h : e < d.length) : octetP (d.drop e) false = (byteAt d e, d.drop (e + 1), false) := by
  rw [drop_cons h]; rfl
theorem num4_rd {d : List UInt8} {e : Nat} (h : (num4P d e).2 = true) : u32P (d.drop e) false = ((num4P d e).1, d.drop (e + 4), false) ∧ e + 4 ≤ d.length := by
  have hle := num4P_ok h
  refine ⟨?_, hle⟩
  have h1 : d.drop e = d.getD e 0 :: d.getD (e + 1) 0 :: d.getD (e + 2) 0 :: d.getD (e + 3) 0 :: d.drop (e + 4) := by
    rw [drop_cons (e := e) (by omega), drop_cons (e := e + 1) (by omega), drop_cons (e := e + 1 + 1) (by omega), drop_cons (e := e + 1 + 1 + 1) (by omega)]
  have h2 : (num4P d e).1 = numAt d e := by unfold num4P; rw [if_pos hle]
  rw [h1, h2]
  rfl
theorem text4_rd {d : List UInt8} {e : Nat} (h : (text4P d e).2.2 = true) : cntP (d.drop e) false = ((text4P d e).1, d.drop (text4P d e).2.1, false) ∧ e + 4 ≤ (text4P d e).2.1 ∧ (text4P d e).2.1 ≤ d.length := by
  unfold text4P at h ⊢
  split at h
  · rename_i h0
    rw [if_pos h0]
    have hn : (num4P d e).2 = true := by unfold num4P; rw [if_pos h0.1]
    have hn1 : (num4P d e).1 = numAt d e := by unfold num4P; rw [if_pos h0.1]
    have h1 := (num4_rd hn).1
    refine ⟨?_, by show e + 4 ≤ e + 4 + numAt d e; omega, h0.2⟩
    unfold cntP
    rw [h1, hn1]
    simp only
    unfold takeP
    rw [if_pos (by simp; omega)]
    have h3 : (d.drop (e + 4)).take (numAt d e) = cutL d (e + 4) (e + 4 + numAt d e) := by
      unfold cutL
      rw [List.drop_take]
      congr 1
      omega
    rw [h3, List.drop_drop]
  · cases h

/-- One term ahead of the others. -/
theorem many_cons {rd : List Ent → List UInt8 → Bool → RT → Prop} {L L0 : List Ent} {r r0 : List UInt8} {b b0 : Bool} {i : Int} (h : rd L r b (i, L0, r0, b0)) : ∀ (n : Nat) (l : List Int) (p : List Ent × List UInt8 × Bool), ReadsMany rd L0 r0 b0 n l p → ReadsMany rd L r b (n + 1) (i :: l) p
  | 0, l, p, hm => by
    obtain ⟨rfl, rfl⟩ := hm
    exact ⟨[], L, r, b, i, ⟨rfl, rfl⟩, h, rfl⟩
  | n + 1, l, p, hm => by
    obtain ⟨l0, L1, r1, b1, id, h1, h2, rfl⟩ := hm
    exact ⟨i :: l0, L1, r1, b1, id, many_cons h n l0 _ h1, h2, rfl⟩
/-- The text of a term that was read from k to e. -/
theorem cut_rd {f : Nat} {d : List UInt8} {k e : Nat} (hk : k ≤ e) (he : e ≤ d.length) {L L' : List Ent} (hG : Good L) (hl : L.length + 10 * (d.drop k).length ≤ 1000000000) {j : Nat} (h : Reads f L (d.drop k) false ((j : Int), L', d.drop e, false)) :
    TAt L' (j : Int) (cutL d k e) ∧ Good L' ∧ L <+: L' ∧ j < L'.length ∧ L'.length + 10 * (d.drop e).length ≤ L.length + 10 * (d.drop k).length := by
  have hr := read_rd f L _ _ _ hG hl h
  have hs := read_snd f L _ _ _ hG hl h
  have ht : TAt L' (j : Int) (readT f (d.drop k) false).1 := hr.text
  have h1 : (d.drop e, false) = (readT f (d.drop k) false).2 := hr.rest
  have hg : Good L' := hr.good
  obtain ⟨_, h2⟩ := hs (by rw [← h1])
  rcases id ht with ⟨h3, _⟩ | ⟨n, h3, h4, h5⟩
  · omega
  · have h6 := h2 (by rw [h5]; exact enc_ne hg h4)
    rw [← h1] at h6
    have h7 : (readT f (d.drop k) false).1.length = e - k := by
      have := congrArg List.length h6
      simp only [List.length_append, List.length_drop] at this
      omega
    have h8 : ∀ T : List UInt8, d.drop k = T ++ d.drop e → T.length = e - k → cutL d k e = T := fun T t1 t2 => by
      unfold cutL
      rw [List.drop_take, t1, ← t2]
      simp
    rw [← h8 _ h6 h7] at ht
    exact ⟨ht, hg, hr.pre, by omega, hr.few⟩

/-- What the document's parser finds right from k is read from k. -/
def PR (d : List UInt8) (f : Nat) : Prop := ∀ (k : Nat) (x : RNode) (e : Nat), parseN f d k = (x, e, true) → ∀ L, Good L → L.length + 10 * (d.drop k).length ≤ 1000000000 → ∃ (j : Nat) (L' : List Ent), Reads f L (d.drop k) false ((j : Int), L', d.drop e, false) ∧ k < e ∧ e ≤ d.length
theorem cut_len {d : List UInt8} {k e : Nat} (h1 : k ≤ e) (h2 : e ≤ d.length) : (cutL d k e).length = e - k := by
  unfold cutL
  rw [List.length_drop, List.length_take]
  omega
/-- What reading the terms within leaves. -/
structure Within (f : Nat) (d : List UInt8) (n k : Nat) (L : List Ent) (l : List Int) (L' : List Ent) (T : List (List UInt8)) (e : Nat) : Prop where
  reads : ReadsMany (Reads f) L (d.drop k) false n l (L', d.drop e, false)
  texts : TAts L' l T
  good : Good L'
  pre : L <+: L'
  few : L'.length + 10 * (d.drop e).length ≤ L.length + 10 * (d.drop k).length
  le : k ≤ e
  end_ : e ≤ d.length
  some_ : ∀ t ∈ T, t ≠ []
  len : T.flatten.length + k = e
theorem many_pr {d : List UInt8} {f : Nat} (hP : PR d f) : ∀ (n k : Nat) (L : List Ent), Good L → L.length + 10 * (d.drop k).length ≤ 1000000000 → k ≤ d.length → (manyP (parseN f d) d n k).2.2 = true →
    ∃ l L', Within f d n k L l L' (manyP (parseN f d) d n k).1 (manyP (parseN f d) d n k).2.1
  | 0, k, L, hG, hl, hk, _ => ⟨[], L, ⟨⟨rfl, rfl⟩, .nil, hG, List.prefix_refl _, Nat.le_refl _, Nat.le_refl _, hk, (fun t ht => by cases ht), Nat.zero_add k⟩⟩
  | n + 1, k, L, hG, hl, hk, h => by
    unfold manyP at h ⊢
    by_cases hp : (parseN f d k).2.2 = true
    · rw [if_pos hp] at h ⊢
      simp only at h ⊢
      obtain ⟨j, L0, h1, h2, h3⟩ := hP k (parseN f d k).1 (parseN f d k).2.1 (Prod.ext rfl (Prod.ext rfl hp)) L hG hl
      obtain ⟨t1, t2, t3, t4, t5⟩ := cut_rd (Nat.le_of_lt h2) h3 hG hl h1
      obtain ⟨l, L', g⟩ := many_pr hP n (parseN f d k).2.1 L0 t2 (Nat.le_trans t5 hl) h3 h
      have hcl := cut_len (Nat.le_of_lt h2) h3
      have hle := g.le
      have hlen := g.len
      refine ⟨(j : Int) :: l, L', many_cons h1 n l _ g.reads, .cons (t1.pre g.good g.pre) g.texts, g.good, t3.trans g.pre, Nat.le_trans g.few t5, by omega, g.end_, ?_, ?_⟩
      · intro t ht
        rcases List.mem_cons.1 ht with rfl | ht
        · intro h0
          rw [h0] at hcl
          simp at hcl
          omega
        · exact g.some_ t ht
      · rw [List.flatten_cons, List.length_append, hcl]
        omega
    · rw [if_neg hp] at h
      cases h
end Go.Proofs.YtlalkpgipenkaaaGreatDoor

namespace Go.Proofs.YtlalkpgipenkaaaGreatDoor
open Go.RowKit

theorem tats_one {L : List Ent} {l : List Int} {T : List (List UInt8)} (h : TAts L l T) (hn : l.length = 1) : ∃ i t, l = [i] ∧ T = [t] ∧ TAt L i t := by
  cases h with
  | nil => simp at hn
  | cons h k => cases k with
    | nil => exact ⟨_, _, rfl, rfl, h⟩
    | cons h k => simp at hn
theorem same_some {M : List Ent} {m : Int × List Ent} {T : List UInt8} (h : Same M m T) (hT : T ≠ []) : ∃ j : Nat, m.1 = j := by
  rcases h.is with ⟨_, h1⟩ | ⟨j, h1, _⟩
  · exact absurd h1 hT
  · exact ⟨j, h1⟩
theorem readsMany_one {rd : List Ent → List UInt8 → Bool → RT → Prop} {L : List Ent} {r : List UInt8} {b : Bool} {i : Int} {p : List Ent × List UInt8 × Bool} (h : ReadsMany rd L r b 1 [i] p) : rd L r b (i, p) := by
  obtain ⟨l0, L0, r0, b0, id, ⟨rfl, h0⟩, h2, h3⟩ := h
  injection h0 with h4 h5
  injection h5 with h5 h6
  subst h4 h5 h6
  injection h3 with h3
  subst h3
  exact h2

theorem text4_len {d : List UInt8} {e : Nat} (h : (text4P d e).2.2 = true) : (text4P d e).2.1 = e + 4 + (text4P d e).1.length := by
  obtain ⟨h1, h2, h3⟩ := text4_rd h
  have hs := cntP_snd (r := d.drop e) (b := false)
  rw [h1] at hs
  have h4 := congrArg List.length (hs rfl).2
  have h5 : (pack4 (text4P d e).1.length).length = 4 := rfl
  simp only [List.length_append, List.length_drop, h5] at h4
  omega
theorem fits_some {l : List UInt8} (h : l.length ≤ 131072) : fitsL l = l := by unfold fitsL; rw [if_neg (by omega)]
theorem tats_two {L : List Ent} {l : List Int} {T : List (List UInt8)} (h : TAts L l T) (hn : l.length = 2) : ∃ i j t u, l = [i, j] ∧ T = [t, u] ∧ TAt L i t ∧ TAt L j u := by
  cases h with
  | nil => simp at hn
  | cons h k =>
    obtain ⟨j, u, rfl, rfl, h2⟩ := tats_one k (by simpa using hn)
    exact ⟨_, _, _, _, rfl, rfl, h, h2⟩
theorem tats_three {L : List Ent} {l : List Int} {T : List (List UInt8)} (h : TAts L l T) (hn : l.length = 3) : ∃ i j m t u v, l = [i, j, m] ∧ T = [t, u, v] ∧ TAt L i t ∧ TAt L j u ∧ TAt L m v := by
  cases h with
  | nil => simp at hn
  | cons h k =>
    obtain ⟨j, m, u, v, rfl, rfl, h2, h3⟩ := tats_two k (by simpa using hn)
    exact ⟨_, _, _, _, _, _, rfl, rfl, h, h2, h3⟩
theorem readsMany_snoc {rd : List Ent → List UInt8 → Bool → RT → Prop} {L : List Ent} {r : List UInt8} {b : Bool} {n : Nat} {l : List Int} {i : Int} {p : List Ent × List UInt8 × Bool} (h : ReadsMany rd L r b (n + 1) (l ++ [i]) p) : ∃ L0 r0 b0, ReadsMany rd L r b n l (L0, r0, b0) ∧ rd L0 r0 b0 (i, p) := by
  obtain ⟨l0, L0, r0, b0, id, h1, h2, h3⟩ := h
  obtain ⟨e1, e2⟩ := List.append_inj' h3 rfl
  injection e2 with e2
  subst e1 e2
  exact ⟨L0, r0, b0, h1, h2⟩
theorem readsMany_two {rd : List Ent → List UInt8 → Bool → RT → Prop} {L : List Ent} {r : List UInt8} {b : Bool} {i j : Int} {p : List Ent × List UInt8 × Bool} (h : ReadsMany rd L r b 2 [i, j] p) : ∃ L0 r0 b0, rd L r b (i, L0, r0, b0) ∧ rd L0 r0 b0 (j, p) := by
  obtain ⟨L0, r0, b0, h1, h2⟩ := readsMany_snoc (l := [i]) h
  exact ⟨L0, r0, b0, readsMany_one h1, h2⟩
theorem readsMany_three {rd : List Ent → List UInt8 → Bool → RT → Prop} {L : List Ent} {r : List UInt8} {b : Bool} {i j m : Int} {p : List Ent × List UInt8 × Bool} (h : ReadsMany rd L r b 3 [i, j, m] p) : ∃ L0 r0 b0 L1 r1 b1, rd L r b (i, L0, r0, b0) ∧ rd L0 r0 b0 (j, L1, r1, b1) ∧ rd L1 r1 b1 (m, p) := by
  obtain ⟨L1, r1, b1, h1, h2⟩ := readsMany_snoc (l := [i, j]) h
  obtain ⟨L0, r0, b0, h3, h4⟩ := readsMany_two h1
  exact ⟨L0, r0, b0, L1, r1, b1, h3, h4, h2⟩
/-- Nonces each of which is not before the one ahead of it. -/
theorem sorted_of {L : List Ent} (hG : Good L) {d : List Nat} (hd : ∀ t ∈ d, t < L.length) (h : sharesOk (d.map (enc L)) = true) : (∀ t ∈ d, kindN L t = 2) ∧ Sorted L d := by
  have hs : ∀ j (hj : j < d.length), kindN L d[j] = 2 ∧ (j = 0 ∨ lessL (enc L d[j]) ((d.map (enc L)).getD (j - 1) []) = false) := fun j hj => by
    unfold sharesOk at h
    rw [List.all_eq_true] at h
    have h1 := h j (by simpa using hj)
    unfold stepOk at h1
    have e1 : (d.map (enc L)).getD j [] = enc L d[j] := by simp [List.getD, hj]
    rw [e1] at h1
    simp only [Bool.and_eq_true, decide_eq_true_eq, Bool.or_eq_true, Bool.not_eq_true'] at h1
    obtain ⟨h2, h3⟩ := h1
    refine ⟨?_, h3⟩
    have hjL := hd _ (List.getElem_mem hj)
    have he : L[d[j]]? = some L[d[j]] := List.getElem?_eq_getElem hjL
    rw [hG.enc_eq he, kind_head (hG.sh _ _ he)] at h2
    rw [kindN_at he]; exact h2
  have hk : ∀ t ∈ d, kindN L t = 2 := fun t ht => by
    obtain ⟨j, hj, rfl⟩ := List.mem_iff_getElem.1 ht
    exact (hs j hj).1
  refine ⟨hk, ?_⟩
  unfold Sorted
  rw [List.pairwise_iff_getElem]
  have hstep : ∀ n i (h1 : i + n + 1 < d.length), ltI L d[i + n + 1] d[i] = false := by
    intro n
    induction n with
    | zero =>
      intro i h1
      rcases (hs (i + 0 + 1) h1).2 with h2 | h2
      · omega
      · have h3 : i < d.length := by omega
        have e2 : (d.map (enc L)).getD (i + 0 + 1 - 1) [] = enc L d[i] := by simp [List.getD, h3]
        rw [e2, less_enc hG (hk _ (List.getElem_mem _)) (hk _ (List.getElem_mem _))] at h2
        exact h2
    | succ n ih =>
      intro i h1
      have a1 := ih i (by omega)
      rcases (hs (i + (n + 1) + 1) h1).2 with h2 | h2
      · omega
      · have h3 : i + n + 1 < d.length := by omega
        have e2 : (d.map (enc L)).getD (i + (n + 1) + 1 - 1) [] = enc L d[i + n + 1] := by simp [List.getD, ← Nat.add_assoc, h3]
        rw [e2, less_enc hG (hk _ (List.getElem_mem _)) (hk _ (List.getElem_mem _))] at h2
        have ka := hk _ (List.getElem_mem (l := d) (n := i) (by omega))
        have kb := hk _ (List.getElem_mem h3)
        have kc := hk _ (List.getElem_mem h1)
        revert h2 a1
        generalize d[i + (n + 1) + 1] = c at *
        generalize d[i + n + 1] = b at *
        generalize d[i] = a at *
        intro a1 h2
        obtain ⟨_, _, _, _, _, na⟩ := enc_nonce hG ka
        obtain ⟨_, _, _, _, _, nb⟩ := enc_nonce hG kb
        obtain ⟨_, _, _, _, _, nc⟩ := enc_nonce hG kc
        have e1 := nb.lt na
        have e2 := nc.lt nb
        have e3 := nc.lt na
        rw [a1] at e1
        rw [h2] at e2
        cases hq : ltI L c a with
        | false => rfl
        | true =>
          have := e3.1 hq
          simp only at e1 e2 this
          have h4 : ¬ _ := fun hh => absurd (e1.2 hh) (by simp)
          have h5 : ¬ _ := fun hh => absurd (e2.2 hh) (by simp)
          omega
  intro i j hi hj hij
  have := hstep (j - i - 1) i (by omega)
  have e : i + (j - i - 1) + 1 = j := by omega
  simp only [e] at this
  exact this
theorem parse_pr {d : List UInt8} (hd : d.length ≤ 131072) : ∀ f, PR d f
  | 0 => fun k x e h => by cases h
  | f + 1 => fun k x e h L hG hl => by
    have hP := parse_pr hd f
    unfold parseN at h
    split at h
    · cases h
    rename_i hk
    have hk : k < d.length := by omega
    unfold restP at h
    split at h
    rotate_left
    · cases h
    rename_i hc
    obtain ⟨c1, c2, c3⟩ := hc
    injection h with _ h
    injection h with h _
    subst h
    have ho := octet_rd hk
    have hdl : ∀ a, (d.drop a).length = d.length - a := fun a => List.length_drop ..
    have hR : ∀ q, ReadsKind (Reads f) (byteAt d k) L (d.drop (k + 1)) false q → Reads (f + 1) L (d.drop k) false q := fun q h => by
      show ReadsKind (Reads f) (octetP (d.drop k) false).1 L (octetP (d.drop k) false).2.1 (octetP (d.drop k) false).2.2 q
      rw [ho]; exact h
    generalize byteAt d k = o at *
    have hL : L.length < 1073741824 := by omega
    by_cases h1 : o = 241
    · subst h1
      have e1 : ((241 : Nat) : Int) - 240 = 1 := by decide
      rw [e1] at c1 c2 c3 ⊢
      simp only [headP, if_true, manyP] at c1 c2 c3 ⊢
      obtain ⟨t1, t2, t3⟩ := text4_rd c1
      have tl := text4_len c1
      have hs := data_same hG hL (text4P d (k + 1)).1
      have hne : refDataL (text4P d (k + 1)).1 ≠ [] := by
        unfold refDataL
        rw [if_neg (by omega), fits_some (by simp [tagL, pack4]; omega)]
        simp [tagL]
      obtain ⟨j, hj⟩ := same_some hs hne
      refine ⟨j, (dataM L (bs (text4P d (k + 1)).1)).2, hR _ (kind_data ?_), by omega, t3⟩
      rw [t1]
      simp only
      rw [hj]
    by_cases h2 : o = 242
    · subst h2
      have e1 : ((242 : Nat) : Int) - 240 = 2 := by decide
      have hh : headP d 2 (k + 1) = (if (num4P d (k + 1)).2 = true then ⟨(num4P d (k + 1)).1, (num4P d (k + 1 + 4)).1, [], k + 1 + 8, (num4P d (k + 1 + 4)).2, 0⟩ else ⟨(num4P d (k + 1)).1, 0, [], k + 1 + 8, false, 0⟩) := by
        unfold headP; rw [if_neg (by decide), if_pos rfl]
      rw [e1, hh] at c1 c2 c3 ⊢
      by_cases hn : (num4P d (k + 1)).2 = true
      · simp only [if_pos hn, manyP] at c1 c2 c3 ⊢
        obtain ⟨a1, a2⟩ := num4_rd hn
        obtain ⟨b1, b2⟩ := num4_rd c1
        have hz : numZ (num4P d (k + 1)).1 = true ∧ numZ (num4P d (k + 1 + 4)).1 = true := by
          unfold rightP at c3
          rw [if_pos (.inl rfl)] at c3
          simpa using c3
        have hs := nonce_same hG hL (num4P d (k + 1)).1 (num4P d (k + 1 + 4)).1
        have hne : refNonceL (num4P d (k + 1)).1 (num4P d (k + 1 + 4)).1 ≠ [] := by
          unfold refNonceL
          rw [if_pos hz]
          simp [tagL]
        obtain ⟨j, hj⟩ := same_some hs hne
        refine ⟨j, (nonceM L (num4P d (k + 1)).1 (num4P d (k + 1 + 4)).1).2, hR _ (kind_nonce ⟨_, rfl, ?_⟩), by omega, by omega⟩
        rw [a1]
        simp only
        rw [b1]
        simp only
        rw [hj]
      · simp only [if_neg hn] at c1
        cases c1
    by_cases h3 : o = 243
    · subst h3
      have e1 : ((243 : Nat) : Int) - 240 = 3 := by decide
      have hh : headP d 3 (k + 1) = ⟨(num4P d (k + 1)).1, 0, [], k + 1 + 4, (num4P d (k + 1)).2, 0⟩ := by
        unfold headP; rw [if_neg (by decide), if_neg (by decide), if_pos rfl]
      rw [e1, hh] at c1 c2 c3 ⊢
      simp only [manyP] at c1 c2 c3 ⊢
      obtain ⟨a1, a2⟩ := num4_rd c1
      have hz : numZ (num4P d (k + 1)).1 = true := by
        unfold rightP at c3
        rw [if_pos (.inr rfl)] at c3
        simp at c3
        exact c3.1
      have hs := key_same hG hL (num4P d (k + 1)).1
      have hne : refKeyL (num4P d (k + 1)).1 ≠ [] := by
        unfold refKeyL
        rw [if_pos hz]
        simp [tagL]
      obtain ⟨j, hj⟩ := same_some hs hne
      refine ⟨j, (keyM L (num4P d (k + 1)).1).2, hR _ (kind_key ?_), by omega, by omega⟩
      rw [a1]
      simp only
      rw [hj]
    have hl1 : L.length + 10 * (d.drop (k + 1)).length ≤ 1000000000 := by have := hdl k; have := hdl (k + 1); omega
    by_cases h4 : o = 244
    · subst h4
      have e1 : ((244 : Nat) : Int) - 240 = 4 := by decide
      have hh : headP d 4 (k + 1) = ⟨0, 0, [], k + 1, true, 1⟩ := by
        unfold headP; rw [if_neg (by decide), if_neg (by decide), if_neg (by decide), if_pos (.inl rfl)]
      rw [e1, hh] at c1 c2 c3 ⊢
      simp only at c1 c2 c3 ⊢
      obtain ⟨l, L', W⟩ := many_pr hP 1 (k + 1) L hG hl1 (by omega) c2
      obtain ⟨i, t, rfl, hT, ht⟩ := tats_one W.texts (readsMany_len _ _ _ _ _ _ _ W.reads)
      rw [hT] at c3
      have h3 : kindL t = 3 := by
        unfold rightP at c3
        simpa using c3
      have hf := W.few
      have hle := W.le
      have hs := pub_same W.good (by omega) ht
      have hne : refPubL t ≠ [] := by
        unfold refPubL
        rw [if_pos h3]
        simp [tagL]
      obtain ⟨j, hj⟩ := same_some hs hne
      refine ⟨j, (pubM L' i).2, hR _ (kind_pub ⟨_, _, _, readsMany_one W.reads, ?_⟩), by omega, W.end_⟩
      rw [hj]
    by_cases h7 : o = 247
    · subst h7
      have e1 : ((247 : Nat) : Int) - 240 = 7 := by decide
      have hh : headP d 7 (k + 1) = ⟨0, 0, [], k + 1, true, 1⟩ := by
        unfold headP; rw [if_neg (by decide), if_neg (by decide), if_neg (by decide), if_pos (.inr rfl)]
      rw [e1, hh] at c1 c2 c3 ⊢
      simp only at c1 c2 c3 ⊢
      obtain ⟨l, L', W⟩ := many_pr hP 1 (k + 1) L hG hl1 (by omega) c2
      obtain ⟨i, t, rfl, hT, ht⟩ := tats_one W.texts (readsMany_len _ _ _ _ _ _ _ W.reads)
      have hne0 := W.some_
      have hlen := W.len
      rw [hT] at hne0 hlen
      have hf := W.few
      have hle := W.le
      have hend := W.end_
      have hs := hash_same W.good (by omega) ht
      have hne : refHashL t ≠ [] := by
        unfold refHashL
        rw [if_neg (hne0 t (by simp)), fits_some (by simp [tagL] at hlen ⊢; omega)]
        simp [tagL]
      obtain ⟨j, hj⟩ := same_some hs hne
      refine ⟨j, (hashM L' i).2, hR _ (kind_hash ⟨_, _, _, readsMany_one W.reads, ?_⟩), by omega, W.end_⟩
      rw [hj]
    by_cases h5 : o = 245
    · subst h5
      have e1 : ((245 : Nat) : Int) - 240 = 5 := by decide
      have hh : headP d 5 (k + 1) = (if (text4P d (k + 1)).2.2 = true then ⟨0, 0, (text4P d (k + 1)).1, (text4P d (k + 1)).2.1 + 4, (num4P d (text4P d (k + 1)).2.1).2 && decide ((num4P d (text4P d (k + 1)).2.1).1 ≤ 8), (num4P d (text4P d (k + 1)).2.1).1⟩ else ⟨0, 0, (text4P d (k + 1)).1, (text4P d (k + 1)).2.1 + 4, false, 0⟩) := by
        unfold headP; rw [if_neg (by decide), if_neg (by decide), if_neg (by decide), if_neg (by decide), if_pos rfl]
      rw [e1, hh] at c1 c2 c3 ⊢
      by_cases hn : (text4P d (k + 1)).2.2 = true
      · simp only [if_pos hn] at c1 c2 c3 ⊢
        rw [Bool.and_eq_true, decide_eq_true_eq] at c1
        obtain ⟨c0, c8⟩ := c1
        obtain ⟨t1, t2, t3⟩ := text4_rd hn
        obtain ⟨n1, n2⟩ := num4_rd c0
        have hcc : sharesOk (manyP (parseN f d) d (num4P d (text4P d (k + 1)).2.1).1 ((text4P d (k + 1)).2.1 + 4)).1 = true ∧ textL (text4P d (k + 1)).1 2100 = true := by
          unfold rightP at c3
          simpa using c3
        obtain ⟨c4, c5⟩ := hcc
        have c5 := of_decide_eq_true c5
        have hb0 := base_got hG hL (s := bs (text4P d (k + 1)).1) (by rw [bs_size]; exact c5.1) (by rw [bs_size]; omega)
        have hbl := hb0.len
        obtain ⟨i, e0, b1, b2, b3, _⟩ := hb0.at_
        have hdk := hdl k
        have hdk1 := hdl (k + 1)
        have hdk2 := hdl ((text4P d (k + 1)).2.1 + 4)
        obtain ⟨l, L', W⟩ := many_pr hP (num4P d (text4P d (k + 1)).2.1).1 ((text4P d (k + 1)).2.1 + 4) (baseM L (bs (text4P d (k + 1)).1)).2 hb0.good (by omega) (by omega) c2
        have hf := W.few
        have hle := W.le
        have hend := W.end_
        have hln := readsMany_len _ _ _ _ _ _ _ W.reads
        rcases tats W.texts with ⟨dd, rfl, hdd, hT⟩ | ⟨h0, _⟩
        · rw [hT] at c4
          obtain ⟨hk2, hsort⟩ := sorted_of W.good hdd c4
          rw [List.length_map] at hln
          obtain ⟨j, M, e, j1, j2, j3, j4, j5, j6⟩ := exps_back W.good hk2 (by omega) hsort (pre_at W.pre b2) b3 (by omega) dd.length (Nat.le_refl _)
          rw [List.take_length] at j6
          have hat : argsAt M (j : Int) = dd.map Int.ofNat := by
            unfold argsAt
            rw [at_nat, j5]
            show e.sh.args.map Int.ofNat = _
            rw [j6]
          refine ⟨j, M, hR _ (kind_share ⟨dd.map Int.ofNat, L', d.drop (manyP (parseN f d) d (num4P d (text4P d (k + 1)).2.1).1 ((text4P d (k + 1)).2.1 + 4)).2.1, false, ((j : Int), M), ?_, ?_, ?_⟩), by omega, hend⟩
          · unfold ReadsTerms
            rw [t1]
            simp only
            rw [n1]
            simp only
            rw [if_neg (by omega)]
            exact W.reads
          · rw [t1]
            simp only
            rw [b1, List.length_map]
            exact j1
          · rw [if_pos hat]
        · exact absurd rfl (W.some_ [] h0)
      · simp only [if_neg hn] at c1
        cases c1
    by_cases h6 : o = 246
    · subst h6
      have e1 : ((246 : Nat) : Int) - 240 = 6 := by decide
      have hh : headP d 6 (k + 1) = ⟨0, 0, (text4P d (k + 1)).1, (text4P d (k + 1)).2.1, (text4P d (k + 1)).2.2, 2⟩ := by
        unfold headP; rw [if_neg (by decide), if_neg (by decide), if_neg (by decide), if_neg (by decide), if_neg (by decide), if_pos rfl]
      rw [e1, hh] at c1 c2 c3 ⊢
      simp only at c1 c2 c3 ⊢
      obtain ⟨t1, t2, t3⟩ := text4_rd c1
      have tl := text4_len c1
      have hdk := hdl k
      have hdk1 := hdl (k + 1)
      have hdk2 := hdl (text4P d (k + 1)).2.1
      obtain ⟨l, L', W⟩ := many_pr hP 2 (text4P d (k + 1)).2.1 L hG (by omega) t3 c2
      obtain ⟨i, j, t, u, rfl, hT, ht, hu⟩ := tats_two W.texts (readsMany_len _ _ _ _ _ _ _ W.reads)
      have hne0 := W.some_
      have hlen := W.len
      have hf := W.few
      have hle := W.le
      have hend := W.end_
      have hcc : textL (text4P d (k + 1)).1 64 = true ∧ kindL t = 3 := by
        rw [hT] at c3
        unfold rightP at c3
        simpa using c3
      rw [hT] at hne0 hlen
      obtain ⟨L0, r0, b0, g1, g2⟩ := readsMany_two W.reads
      have hs := sign_same W.good (by omega) (text4P d (k + 1)).1 ht hu
      have hne : refSignL (text4P d (k + 1)).1 t u ≠ [] := by
        unfold refSignL
        rw [if_pos ⟨hcc.1, hcc.2, hne0 u (by simp)⟩, fits_some (by simp [tagL, pack4] at hlen ⊢; omega)]
        simp [tagL]
      obtain ⟨j', hj⟩ := same_some hs hne
      refine ⟨j', (signM L' (bs (text4P d (k + 1)).1) i j).2, hR _ (kind_sign ⟨i, L0, r0, b0, j, L', (d.drop (manyP (parseN f d) d 2 (text4P d (k + 1)).2.1).2.1, false), ?_, g2, ?_⟩), by omega, hend⟩
      · rw [t1]; exact g1
      · rw [t1]
        simp only
        rw [hj]
    by_cases h8 : o = 248
    · subst h8
      have e1 : ((248 : Nat) : Int) - 240 = 8 := by decide
      have hh : headP d 8 (k + 1) = (if k + 1 < d.length then ⟨0, byteAt d (k + 1), [], k + 1 + 1, true, 3⟩ else ⟨0, 0, [], k + 1 + 1, false, 3⟩) := by
        unfold headP; rw [if_neg (by decide), if_neg (by decide), if_neg (by decide), if_neg (by decide), if_neg (by decide), if_neg (by decide), if_pos rfl]
      rw [e1, hh] at c1 c2 c3 ⊢
      by_cases hn : k + 1 < d.length
      · simp only [if_pos hn] at c1 c2 c3 ⊢
        have ho2 := octet_rd hn
        have hdk := hdl k
        have hdk1 := hdl (k + 1)
        have hdk2 := hdl (k + 1 + 1)
        obtain ⟨l, L', W⟩ := many_pr hP 3 (k + 1 + 1) L hG (by omega) (by omega) c2
        obtain ⟨i, j, m, t, u, v, rfl, hT, ht, hu, hv⟩ := tats_three W.texts (readsMany_len _ _ _ _ _ _ _ W.reads)
        have hne0 := W.some_
        have hlen := W.len
        have hf := W.few
        have hle := W.le
        have hend := W.end_
        rw [hT] at hne0 hlen
        obtain ⟨L0, r0, b0, L1, r1, b1, g1, g2, g3⟩ := readsMany_three W.reads
        have hs := derive_same W.good (by omega) (d.getD (k + 1) 0) ht hu hv
        have hne : refDeriveL (d.getD (k + 1) 0) t u v ≠ [] := by
          unfold refDeriveL
          rw [if_pos ⟨hne0 t (by simp), hne0 u (by simp), hne0 v (by simp)⟩, fits_some (by simp [tagL] at hlen ⊢; omega)]
          simp [tagL]
        obtain ⟨j', hj⟩ := same_some hs hne
        refine ⟨j', (deriveM L' (d.getD (k + 1) 0).toNat i j m).2, hR _ (kind_derive ⟨i, L0, r0, b0, j, L1, r1, b1, m, L', (d.drop (manyP (parseN f d) d 3 (k + 1 + 1)).2.1, false), ?_, g2, g3, ?_⟩), by omega, hend⟩
        · rw [ho2]; exact g1
        · rw [ho2]
          show _ = ((deriveM L' (d.getD (k + 1) 0).toNat i j m).1, _, _)
          rw [hj]
          rfl
      · simp only [if_neg hn] at c1
        cases c1
    by_cases h9 : o = 249
    · subst h9
      have e1 : ((249 : Nat) : Int) - 240 = 9 := by decide
      have hh : headP d 9 (k + 1) = ⟨0, (num4P d (k + 1)).1, [], k + 1 + 4, (num4P d (k + 1)).2, 2⟩ := by
        unfold headP; rw [if_neg (by decide), if_neg (by decide), if_neg (by decide), if_neg (by decide), if_neg (by decide), if_neg (by decide), if_neg (by decide), if_pos rfl]
      rw [e1, hh] at c1 c2 c3 ⊢
      simp only at c1 c2 c3 ⊢
      obtain ⟨a1, a2⟩ := num4_rd c1
      have hdk := hdl k
      have hdk1 := hdl (k + 1)
      have hdk2 := hdl (k + 1 + 4)
      obtain ⟨l, L', W⟩ := many_pr hP 2 (k + 1 + 4) L hG (by omega) (by omega) c2
      obtain ⟨i, j, t, u, rfl, hT, ht, hu⟩ := tats_two W.texts (readsMany_len _ _ _ _ _ _ _ W.reads)
      have hne0 := W.some_
      have hlen := W.len
      have hf := W.few
      have hle := W.le
      have hend := W.end_
      rw [hT] at hne0 hlen
      obtain ⟨L0, r0, b0, g1, g2⟩ := readsMany_two W.reads
      have hs := seal_same W.good (by omega) (num4P d (k + 1)).1 (by have := num4P_lt d (k + 1); omega) ht hu
      have hne : refSealL t (num4P d (k + 1)).1 u ≠ [] := by
        unfold refSealL
        rw [if_pos ⟨hne0 t (by simp), hne0 u (by simp)⟩, fits_some (by simp [tagL, pack4] at hlen ⊢; omega)]
        simp [tagL]
      obtain ⟨j', hj⟩ := same_some hs hne
      refine ⟨j', (sealM L' i (num4P d (k + 1)).1 j).2, hR _ (kind_seal ⟨i, L0, r0, b0, j, L', (d.drop (manyP (parseN f d) d 2 (k + 1 + 4)).2.1, false), ?_, g2, ?_⟩), by omega, hend⟩
      · rw [a1]; exact g1
      · rw [a1]
        simp only
        rw [hj]
    by_cases h10 : o = 250
    · subst h10
      have e1 : ((250 : Nat) : Int) - 240 = 10 := by decide
      have hh : headP d 10 (k + 1) = ⟨0, 0, [], k + 1 + 4, (num4P d (k + 1)).2 && decide ((num4P d (k + 1)).1 ≤ 32), (num4P d (k + 1)).1⟩ := by
        unfold headP; rw [if_neg (by decide), if_neg (by decide), if_neg (by decide), if_neg (by decide), if_neg (by decide), if_neg (by decide), if_neg (by decide), if_neg (by decide), if_pos rfl]
      rw [e1, hh] at c1 c2 c3 ⊢
      simp only at c1 c2 c3 ⊢
      rw [Bool.and_eq_true, decide_eq_true_eq] at c1
      obtain ⟨c0, c32⟩ := c1
      obtain ⟨a1, a2⟩ := num4_rd c0
      have hdk := hdl k
      have hdk1 := hdl (k + 1)
      have hdk2 := hdl (k + 1 + 4)
      obtain ⟨l, L', W⟩ := many_pr hP (num4P d (k + 1)).1 (k + 1 + 4) L hG (by omega) (by omega) c2
      have hne0 := W.some_
      have hlen := W.len
      have hf := W.few
      have hle := W.le
      have hend := W.end_
      have hln := readsMany_len _ _ _ _ _ _ _ W.reads
      have htl := W.texts.length
      have hs := list_same W.good (by omega) W.texts
      have hne : refListL (manyP (parseN f d) d (num4P d (k + 1)).1 (k + 1 + 4)).1 ≠ [] := by
        unfold refListL
        rw [if_pos ⟨by omega, hne0, by omega⟩]
        simp [tagL]
      obtain ⟨j', hj⟩ := same_some hs hne
      refine ⟨j', (listM L' l).2, hR _ (kind_list ⟨l, L', (d.drop (manyP (parseN f d) d (num4P d (k + 1)).1 (k + 1 + 4)).2.1, false), ?_, ?_⟩), by omega, hend⟩
      · unfold ReadsTerms
        rw [a1]
        simp only
        rw [if_neg (by omega)]
        exact W.reads
      · rw [hj]
    exfalso
    have hh : (headP d ((o : Int) - 240) (k + 1)).ok = false := by
      unfold headP
      rw [if_neg (by omega), if_neg (by omega), if_neg (by omega), if_neg (by omega), if_neg (by omega), if_neg (by omega), if_neg (by omega), if_neg (by omega), if_neg (by omega)]
    rw [hh] at c1
    cases c1
end Go.Proofs.YtlalkpgipenkaaaGreatDoor

namespace Go.Proofs.YtlalkpgipenkaaaGreatDoor
open Go.RowKit

/-- Are bytes just those of one term? -/
def rightD (d : List UInt8) : Bool := (parseN (d.length + 1) d 0).2.2 && decide ((parseN (d.length + 1) d 0).2.1 = d.length)
theorem right_dec {d : List UInt8} (hd : d.length ≤ 131072) (h : rightD d = true) {q : RT} (hq : Reads (d.length + 1) [] d false q) :
    ∃ j : Nat, q.1 = j ∧ decP q = ((j : Int), 0) ∧ j < q.2.1.length ∧ enc q.2.1 j = d ∧ kindAt q.2.1 q.1 = (kindL d : Int) := by
  unfold rightD at h
  rw [Bool.and_eq_true, decide_eq_true_eq] at h
  obtain ⟨h1, h2⟩ := h
  have hl : ([] : List Ent).length + 10 * (d.drop 0).length ≤ 1000000000 := by simp; omega
  obtain ⟨j, L', h3, _, _⟩ := parse_pr hd (d.length + 1) 0 (parseN (d.length + 1) d 0).1 (parseN (d.length + 1) d 0).2.1 (Prod.ext rfl (Prod.ext rfl h1)) [] Good.nil hl
  rw [h2, List.drop_zero, List.drop_length] at h3
  rw [List.drop_zero] at hl
  have r1 := read_rd (d.length + 1) [] d false _ Good.nil hl h3
  have r2 := read_rd (d.length + 1) [] d false _ Good.nil hl hq
  have t1 : TAt L' (j : Int) (readT (d.length + 1) d false).1 := r1.text
  have e1 : (([] : List UInt8), false) = (readT (d.length + 1) d false).2 := r1.rest
  have e2 : q.2.2 = ([], false) := by rw [r2.rest, ← e1]
  have hne : q.1 ≠ -1 := fun hc => by
    rcases t1 with ⟨h4, _⟩ | ⟨n, _, h5, h6⟩
    · omega
    · rcases r2.text with ⟨_, h8⟩ | ⟨m, h7, _, _⟩
      · rw [h6] at h8; exact enc_ne r1.good h5 h8
      · omega
  have hc : q.2.2.2 = false ∧ q.2.2.1 = [] ∧ q.1 ≠ -1 := ⟨by rw [e2], by rw [e2], hne⟩
  obtain ⟨m, g1, g2, g3⟩ := dec_ok Good.nil hl hq hc
  refine ⟨m, g1, ?_, g2, g3.symm, ?_⟩
  · unfold decP
    rw [if_pos hc, g1]
  · rw [g1]
    exact kind_tat r2.good (.inr ⟨m, rfl, g2, g3⟩)
theorem right_no {d : List UInt8} (hd : d.length ≤ 131072) (h : rightD d = false) {q : RT} (hq : Reads (d.length + 1) [] d false q) : decP q = (-1, 3) := by
  have hl : ([] : List Ent).length + 10 * d.length ≤ 1000000000 := by simp; omega
  by_cases hc : q.2.2.2 = false ∧ q.2.2.1 = [] ∧ q.1 ≠ -1
  · exfalso
    obtain ⟨m, g1, g2, g3⟩ := dec_ok Good.nil hl hq hc
    have r2 := read_rd (d.length + 1) [] d false _ Good.nil hl hq
    have hp := parse_enc r2.good m _ (List.getElem?_eq_getElem g2) (d.length + 1) 0 d [] (by rw [← g3]; simp) (by rw [← g3]; omega)
    unfold rightD at h
    rw [hp, ← g3] at h
    simp at h
  · unfold decP
    rw [if_neg hc]
/-- What Opaque answers is what the document says. -/
theorem opa_right {d : List UInt8} (hd : d.length ≤ 131072) {q : RT} (hq : Reads (d.length + 1) [] d false q) : opaP q = (rightD d && decide (kindL d ≠ 1)) := by
  unfold opaP
  cases h : rightD d with
  | true =>
    obtain ⟨j, h1, h2, h3, h4, h5⟩ := right_dec hd h hq
    rw [h2, h5]
    simp
    omega
  | false =>
    rw [right_no hd h hq]
    simp
end Go.Proofs.YtlalkpgipenkaaaGreatDoor
