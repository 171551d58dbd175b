/- Layer 14: what is known is safe; the constructors, one behind the other. -/
import Derived.Test.YtlalkpgipenkaaaRcJ
import Derived.Test.YtlalkpgipenkaaaKnd
import Derived.Test.YtlalkpgipenkaaaEncAll
namespace Go.Proofs.Ytlalkpgipenkaaa
open Go.RowKit

def BadZ (L : List Ent) (x : Int) : Prop := x = -1 ∨ ∃ p : Nat, x = p ∧ Bad L p
theorem BadZ.mono {L L' : List Ent} (hp : L <+: L') {x : Int} (h : BadZ L x) : BadZ L' x := h.imp_right fun ⟨p, h1, h2⟩ => ⟨p, h1, h2.mono hp⟩
/-- The key is the first term, x the nonce, H what is hidden; ids are known. -/
structure KSt (kk : Nat) (H : Int) (hs : ByteArray) (x : Int) (L : List Ent) (ids : List Int) : Prop where
  key : ∃ e : Ent, L[0]? = some e ∧ e.sh = ⟨3, kk, 0, noStr, []⟩
  non : BadZ L x
  hid : HidAt H hs L
  ids : ∀ z ∈ ids, SafeZ H False L z
theorem KSt.mono {kk : Nat} {H : Int} {hs : ByteArray} {x : Int} {L L' : List Ent} {ids : List Int} (h : KSt kk H hs x L ids) (hp : L <+: L') : KSt kk H hs x L' ids := by
  obtain ⟨⟨e, h1, h2⟩, h3, h4, h5⟩ := h
  exact ⟨⟨e, pre_at hp h1, h2⟩, h3.mono hp, h4.mono hp, fun z hz => (h5 z hz).mono hp id⟩
theorem KSt.snoc {kk : Nat} {H : Int} {hs : ByteArray} {x : Int} {L L' : List Ent} {ids : List Int} (h : KSt kk H hs x L ids) (hp : L <+: L') {z : Int} (hz : SafeZ H False L' z) : KSt kk H hs x L' (ids ++ [z]) :=
  ⟨(h.mono hp).key, (h.mono hp).non, (h.mono hp).hid, fun y hy => by
    rcases List.mem_append.1 hy with hy | hy
    · exact (h.mono hp).ids y hy
    · rw [List.mem_singleton.1 hy]; exact hz⟩
theorem KSt.bad0 {kk : Nat} {H : Int} {hs : ByteArray} {x : Int} {L : List Ent} {ids : List Int} (h : KSt kk H hs x L ids) : BadZ L 0 := by
  obtain ⟨e, h1, h2⟩ := h.key
  exact .inr ⟨0, rfl, e, h1, .inl (by rw [h2])⟩
theorem KSt.start {kk : Nat} {L L2 : List Ent} {x : Int} {e : Ent} (he : L[0]? = some e) (hk : e.sh = ⟨3, kk, 0, noStr, []⟩) (hx : BadZ L x) {hs : ByteArray} {m : Int × List Ent} (hm : MadeOf L (fun sh => sh = ⟨1, 0, 0, hs, []⟩) m) (hL : m.2 = L2) : KSt kk m.1 hs x L2 [] := by
  subst hL
  rcases hm with rfl | ⟨sh, rfl, hg⟩
  · exact ⟨⟨e, he, hk⟩, hx, .inl rfl, by simp⟩
  · obtain ⟨n, e', h1, h2, h3, _⟩ := hg.at_
    exact ⟨⟨e, pre_at hg.pre he, hk⟩, hx.mono hg.pre, .inr ⟨n, e', h1, h2, h3⟩, by simp⟩
theorem KSt.skip {kk : Nat} {H : Int} {hs : ByteArray} {x : Int} {L : List Ent} {ids : List Int} {P : Shp → Prop} {m : Int × List Ent} (h : KSt kk H hs x L ids) (hm : MadeOf L P m) (hG : Good L) : KSt kk H hs x m.2 ids := h.mono (hm.grown hG).pre
theorem KSt.kind {kk : Nat} {H : Int} {hs : ByteArray} {x : Int} {L : List Ent} {ids : List Int} {P : Shp → Prop} {m : Int × List Ent} (h : KSt kk H hs x L ids) (hm : MadeOf L P m) (hG : Good L) (k : Nat) (hk : k = 4 ∨ k = 6 ∨ k = 7 ∨ k = 8) (hP : ∀ sh, P sh → sh.kind = k) : KSt kk H hs x m.2 (ids ++ [m.1]) :=
  h.snoc (hm.grown hG).pre (made_safe_kind hm h.hid k hk hP)
theorem KSt.data {kk : Nat} {H : Int} {hs s : ByteArray} {x : Int} {L : List Ent} {ids : List Int} {m : Int × List Ent} (h : KSt kk H hs x L ids) (hm : MadeOf L (fun sh => sh = ⟨1, 0, 0, s, []⟩) m) (hG : Good L) (hne : s ≠ hs) : KSt kk H hs x m.2 (ids ++ [m.1]) :=
  h.snoc (hm.grown hG).pre (made_safe hm h.hid fun sh e => by subst e; exact ⟨fun e => hne (by injection e), by simp, by simp, by simp, by simp, by simp⟩)
theorem KSt.share {kk : Nat} {H : Int} {hs : ByteArray} {x : Int} {L : List Ent} {ids : List Int} {m : Int × List Ent} (h : KSt kk H hs x L ids) (hm : MadeOf L (fun sh => ∃ s d, sh = ⟨5, 0, 0, s, d⟩ ∧ d ≠ []) m) (hG : Good L) : KSt kk H hs x m.2 (ids ++ [m.1]) :=
  h.snoc (hm.grown hG).pre (made_safe hm h.hid fun sh ⟨s, d, e, hne⟩ => by subst e; exact ⟨by simp, by simp, by simp, fun _ _ hn => absurd hn hne, by simp, by simp⟩)
theorem KSt.encl {kk : Nat} {H : Int} {hs : ByteArray} {x k t : Int} {n : Nat} {L : List Ent} {ids : List Int} (h : KSt kk H hs x L ids) (hG : Good L) (hlen : L.length < 1073741824) (hn : n ≤ 4294967295) (hk : BadZ L k) : KSt kk H hs x (sealM L k n t).2 (ids ++ [(sealM L k n t).1]) :=
  h.snoc ((seal_made hG hlen n hn k t).grown hG).pre (sealM_safe hG hlen h.hid n hn fun p hp hb => by
    rcases hk with rfl | ⟨q, hq, hB⟩
    · omega
    · have : p = q := by omega
      subst this
      exact absurd hB hb)

/-- An arena that grew from w0 on. -/
structure Ar (B : Nat) (w0 : World) (A : Nat) (L : List Ent) (n : Nat) (W : World) : Prop where
  ar : ∃ F, ArenaAt B A L F W
  good : Good L
  len : L.length ≤ n
  bel : Below B w0 W
theorem Ar.lt {B A n : Nat} {w0 W : World} {L : List Ent} (h : Ar B w0 A L n W) : B < W.heap.size := by
  obtain ⟨F, ha⟩ := h.ar
  have := ha.lt A ha.self
  omega
theorem Ar.below {B A n : Nat} {w0 W W' : World} {L : List Ent} (h : Ar B w0 A L n W) (hb : Below W.heap.size W W') : Ar B w0 A L n W' := by
  obtain ⟨F, ha⟩ := h.ar
  exact ⟨⟨F, ha.below hb⟩, h.good, h.len, h.bel.trans (hb.mono (Nat.le_of_lt h.lt))⟩
theorem Ar.makes {B A n : Nat} {w0 W : World} {L : List Ent} (h : Ar B w0 A L n W) {f : FuncId} {args : Array Value} {m : Int × List Ent} {P : Shp → Prop} (hc : ∀ F, ArenaAt B A L F W → Calls Try.prog f args W (Makes B A F W m)) (hm : MadeOf L P m) :
    Calls Try.prog f args W fun r w' => r = .returned (.int .i64 m.1) ∧ MadeOf L P m ∧ Ar B w0 A m.2 (n + 1) w' := by
  obtain ⟨F, ha⟩ := h.ar
  refine (hc F ha).mono fun r w' hmk => ?_
  obtain ⟨h1, F', h2, h3⟩ := hmk.out ha
  have g := hm.grown h.good
  exact ⟨h1, hm, ⟨F', h2⟩, g.good, by have := g.len; have := h.len; omega, h.bel.trans h3⟩

/-- The arena at A has what is known, and its key. -/
structure Kp (B : Nat) (w0 : World) (A : Nat) (kk : Nat) (H : Int) (hs : ByteArray) (x : Int) (ids : List Int) (L : List Ent) (n : Nat) (W : World) : Prop where
  a : Ar B w0 A L n W
  k : KSt kk H hs x L ids
theorem Kp.below {B A n kk : Nat} {w0 W W' : World} {H x : Int} {hs : ByteArray} {ids : List Int} {L : List Ent} (h : Kp B w0 A kk H hs x ids L n W) (hb : Below W.heap.size W W') : Kp B w0 A kk H hs x ids L n W' := ⟨h.a.below hb, h.k⟩
theorem Kp.len {B A n kk : Nat} {w0 W : World} {H x : Int} {hs : ByteArray} {ids : List Int} {L : List Ent} (h : Kp B w0 A kk H hs x ids L n W) (hn : n ≤ 1000) : L.length < 1073741824 := by have := h.a.len; omega
section
variable {B A n kk : Nat} {w0 W : World} {H x : Int} {hs : ByteArray} {ids : List Int} {L : List Ent}
theorem Kp.kind (h : Kp B w0 A kk H hs x ids L n W) {f : FuncId} {args : Array Value} {m : Int × List Ent} {P : Shp → Prop} (hc : ∀ F, ArenaAt B A L F W → Calls Try.prog f args W (Makes B A F W m)) (hm : MadeOf L P m) (k : Nat) (hk : k = 4 ∨ k = 6 ∨ k = 7 ∨ k = 8) (hP : ∀ sh, P sh → sh.kind = k) :
    Calls Try.prog f args W fun r w' => ∃ m : Int × List Ent, r = .returned (.int .i64 m.1) ∧ Kp B w0 A kk H hs x (ids ++ [m.1]) m.2 (n + 1) w' :=
  (h.a.makes hc hm).mono fun r w' ⟨h1, h2, h3⟩ => ⟨m, h1, h3, h.k.kind h2 h.a.good k hk hP⟩
theorem Kp.skip (h : Kp B w0 A kk H hs x ids L n W) {f : FuncId} {args : Array Value} {m : Int × List Ent} {P : Shp → Prop} (hc : ∀ F, ArenaAt B A L F W → Calls Try.prog f args W (Makes B A F W m)) (hm : MadeOf L P m) :
    Calls Try.prog f args W fun r w' => ∃ m : Int × List Ent, r = .returned (.int .i64 m.1) ∧ Kp B w0 A kk H hs x ids m.2 (n + 1) w' :=
  (h.a.makes hc hm).mono fun r w' ⟨h1, h2, h3⟩ => ⟨m, h1, h3, h.k.skip h2 h.a.good⟩
theorem kpPub (h : Kp B w0 A kk H hs x ids L n W) (hn : n ≤ 1000) (k : Int) : Calls Try.prog 28 #[.pointer (some ⟨A, 0, none⟩), .int .i64 k] W fun r w' => ∃ m : Int × List Ent, r = .returned (.int .i64 m.1) ∧ Kp B w0 A kk H hs x (ids ++ [m.1]) m.2 (n + 1) w' :=
  h.kind (fun F ha => Pub_any ha (h.len hn) k) (pub_made h.a.good (h.len hn) k) 4 (by omega) fun _ h => h
theorem kpSign (h : Kp B w0 A kk H hs x ids L n W) (hn : n ≤ 1000) (s : ByteArray) (hsz : s.size ≤ 1000000) (k t : Int) : Calls Try.prog 29 #[.pointer (some ⟨A, 0, none⟩), .string s, .int .i64 k, .int .i64 t] W fun r w' => ∃ m : Int × List Ent, r = .returned (.int .i64 m.1) ∧ Kp B w0 A kk H hs x (ids ++ [m.1]) m.2 (n + 1) w' :=
  h.kind (fun F ha => Sign_any ha (h.len hn) s (by omega) k t) (sign_made h.a.good (h.len hn) s k t) 6 (by omega) fun _ h => h
theorem kpHash (h : Kp B w0 A kk H hs x ids L n W) (hn : n ≤ 1000) (k : Int) : Calls Try.prog 30 #[.pointer (some ⟨A, 0, none⟩), .int .i64 k] W fun r w' => ∃ m : Int × List Ent, r = .returned (.int .i64 m.1) ∧ Kp B w0 A kk H hs x (ids ++ [m.1]) m.2 (n + 1) w' :=
  h.kind (fun F ha => Hash_any ha (h.len hn) k) (hash_made h.a.good (h.len hn) k) 7 (by omega) fun _ h => h.1
theorem kpDerive (h : Kp B w0 A kk H hs x ids L n W) (hn : n ≤ 1000) (c : Nat) (hc : c ≤ 255) (p q t : Int) : Calls Try.prog 33 #[.pointer (some ⟨A, 0, none⟩), .int .u8 c, .int .i64 p, .int .i64 q, .int .i64 t] W fun r w' => ∃ m : Int × List Ent, r = .returned (.int .i64 m.1) ∧ Kp B w0 A kk H hs x (ids ++ [m.1]) m.2 (n + 1) w' :=
  h.kind (fun F ha => Derive_any ha (h.len hn) c hc p q t) (derive_made h.a.good (h.len hn) c hc p q t) 8 (by omega) fun _ h => h
theorem kpSeal (h : Kp B w0 A kk H hs x ids L n W) (hn : n ≤ 1000) (k : Int) (c : Nat) (hc : c ≤ 4294967295) (t : Int) (hk : BadZ L k) : Calls Try.prog 31 #[.pointer (some ⟨A, 0, none⟩), .int .i64 k, .int .u32 c, .int .i64 t] W fun r w' => ∃ m : Int × List Ent, r = .returned (.int .i64 m.1) ∧ Kp B w0 A kk H hs x (ids ++ [m.1]) m.2 (n + 1) w' :=
  (h.a.makes (fun F ha => Seal_any ha (h.len hn) k c hc t) (seal_made h.a.good (h.len hn) c hc k t)).mono fun r w' ⟨h1, h2, h3⟩ => ⟨_, h1, h3, h.k.encl h.a.good (h.len hn) hc hk⟩
theorem kpData (h : Kp B w0 A kk H hs x ids L n W) (hn : n ≤ 1000) (s : ByteArray) (hsz : s.size ≤ 1000000) (hne : s ≠ hs) : Calls Try.prog 25 #[.pointer (some ⟨A, 0, none⟩), .string s] W fun r w' => ∃ m : Int × List Ent, r = .returned (.int .i64 m.1) ∧ Kp B w0 A kk H hs x (ids ++ [m.1]) m.2 (n + 1) w' :=
  (h.a.makes (fun F ha => Data_any ha (h.len hn) s (by omega)) (data_made h.a.good (h.len hn) s)).mono fun r w' ⟨h1, h2, h3⟩ => ⟨_, h1, h3, h.k.data h2 h.a.good hne⟩
theorem kpData0 (h : Kp B w0 A kk H hs x ids L n W) (hn : n ≤ 1000) (s : ByteArray) (hsz : s.size ≤ 1000000) : Calls Try.prog 25 #[.pointer (some ⟨A, 0, none⟩), .string s] W fun r w' => ∃ m : Int × List Ent, r = .returned (.int .i64 m.1) ∧ Kp B w0 A kk H hs x ids m.2 (n + 1) w' :=
  h.skip (fun F ha => Data_any ha (h.len hn) s (by omega)) (data_made h.a.good (h.len hn) s)
theorem kpBase (h : Kp B w0 A kk H hs x ids L n W) (hn : n ≤ 1000) (s : ByteArray) (hsz : s.size ≤ 1000000) : Calls Try.prog 27 #[.pointer (some ⟨A, 0, none⟩), .string s] W fun r w' => ∃ m : Int × List Ent, r = .returned (.int .i64 m.1) ∧ Kp B w0 A kk H hs x ids m.2 (n + 1) w' :=
  h.skip (fun F ha => Base_any ha (h.len hn) s (by omega)) (base_made h.a.good (h.len hn) s)
theorem kpList (h : Kp B w0 A kk H hs x ids L n W) (hn : n ≤ 1000) {v : Value} {l : List Int} (hv : IdsAt W v l) (hl : l.length ≤ 1000) : Calls Try.prog 32 #[.pointer (some ⟨A, 0, none⟩), v] W fun r w' => ∃ m : Int × List Ent, r = .returned (.int .i64 m.1) ∧ Kp B w0 A kk H hs x ids m.2 (n + 1) w' :=
  h.skip (fun F ha => List_any ha (h.len hn) hv (by omega)) (list_made h.a.good (h.len hn) l)
theorem kpExp (h : Kp B w0 A kk H hs x ids L n W) (hn : n ≤ 1000) (s t : Int) : Calls Try.prog 26 #[.pointer (some ⟨A, 0, none⟩), .int .i64 s, .int .i64 t] W fun r w' => ∃ m : Int × List Ent, r = .returned (.int .i64 m.1) ∧ Kp B w0 A kk H hs x (ids ++ [m.1]) m.2 (n + 1) w' := by
  obtain ⟨F, ha⟩ := h.a.ar
  refine (Exp_any ha (h.len hn) s t).mono fun r w' ⟨m, he, hmk⟩ => ?_
  obtain ⟨h1, F', h2, h3⟩ := hmk.out ha
  have hm := exp_made h.a.good (h.len hn) he
  have g := hm.grown h.a.good
  exact ⟨m, h1, ⟨⟨F', h2⟩, g.good, by have := g.len; have := h.a.len; omega, h.a.bel.trans h3⟩, h.k.share hm h.a.good⟩
end
end Go.Proofs.Ytlalkpgipenkaaa
