/- Part 2 of what the statement wants. -/
import Derived.LaidEql
import Derived.Stop.Asserts
import Derived.RowKitTokens
import Derived.Test.YtgoinpibllomfaaDoorPk00
import Derived.Test.YtgoinpibllomfaaDoorPk01
namespace Go.Proofs.YtgoinpibllomfaaDoor
open Go.RowKit Go.Extern.Stop Go.Stop Go.Extern

/-- An error in memory: its locations and its number, if it has one. -/
inductive ErrAt (w : World) : Value → List ByteArray → Option Int → Prop
  | none : ErrAt w .nilIface [] none
  | num (e : Int) : ErrAt w (.iface 35 (.int .i64 e)) [] (some e)
  | fault {b : Nat} {x : ByteArray} {v : Value} {path : List ByteArray} {n : Option Int} : b < w.heap.size → w.cell? ⟨b, 0, none⟩ = some (.string x) → w.cell? ⟨b, 1, none⟩ = some v → ErrAt w v path n → ErrAt w (.iface 103 (.pointer (some ⟨b, 0, none⟩))) (x :: path) n
theorem ErrAt.later {w w' : World} {v : Value} {path : List ByteArray} {n : Option Int} (h : ErrAt w v path n) (hb : Below w.heap.size w w') : ErrAt w' v path n := by
  induction h with
  | none => exact .none
  | num e => exact .num e
  | @fault b x v path n h1 h2 h3 _ ih => exact .fault (Nat.lt_of_lt_of_le h1 hb.size) ((hb.cell (p := ⟨b, 0, Option.none⟩) h1).trans h2) ((hb.cell (p := ⟨b, 1, Option.none⟩) h1).trans h3) ih

theorem ErrAt.same {w : World} {v : Value} {path : List ByteArray} {n : Option Int} (h : ErrAt w v path n) : ∀ {path' : List ByteArray} {n' : Option Int}, ErrAt w v path' n' → path = path' ∧ n = n' := by
  induction h with
  | none => intro _ _ k; cases k; exact ⟨rfl, rfl⟩
  | num e => intro _ _ k; cases k; exact ⟨rfl, rfl⟩
  | @fault b x v path n h1 h2 h3 _ ih =>
    intro _ _ k
    cases k with
    | fault k1 k2 k3 k4 =>
      have e2 := h2.symm.trans k2
      have e3 := h3.symm.trans k3
      simp only [Option.some.injEq, Value.string.injEq] at e2 e3
      subst e2 e3
      obtain ⟨rfl, rfl⟩ := ih k4
      exact ⟨rfl, rfl⟩
theorem fAt_some (x : ByteArray) (t : TypeId) (u : Value) (w : World) : Calls Tryd.prog 45 #[.string x, .iface t u] w fun r w' => r = .returned (.iface 103 (.pointer (some ⟨w.heap.size, 0, none⟩))) ∧ w' = w.alloc (.cells #[.string x, .iface t u] 105) := by
  go_enter Tryd.func45, Tryd.ntmps45
  go_wp2_with fail
  go_ret
  exact ⟨rfl, rfl⟩
/-- At of what is an error. -/
theorem fAt_any {w : World} {v : Value} {path : List ByteArray} {n : Option Int} (hv : ErrAt w v path n) (hne : v ≠ .nilIface) (x : ByteArray) : Calls Tryd.prog 45 #[.string x, v] w fun r w' => ∃ v', r = .returned v' ∧ ErrAt w' v' (x :: path) n ∧ v' ≠ .nilIface ∧ Below w.heap.size w w' := by
  obtain ⟨t0, v0, rfl⟩ : ∃ t0 v0, v = .iface t0 v0 := by
    cases hv with
    | none => exact absurd rfl hne
    | num e => exact ⟨_, _, rfl⟩
    | fault _ _ _ _ => exact ⟨_, _, rfl⟩
  refine (fAt_some x t0 v0 w).mono fun r w' ⟨h1, h2⟩ => ⟨_, h1, ?_, by simp, ?_⟩
  · subst h2
    have hN := Holds.new w 105 #[.string x, .iface t0 v0]
    exact .fault (by simp) (hN.cell 0) (hN.cell 1) (hv.later ((Below.refl _ _).alloc (Nat.le_refl _) _))
  · rw [h2]; exact (Below.refl _ _).alloc (Nat.le_refl _) _
theorem fOf_zero (x : ByteArray) (w : World) : Calls Tryd.prog 46 #[.string x, .int .i64 0] w fun r w' => r = .returned .nilIface ∧ w' = w := by
  go_enter Tryd.func46, Tryd.ntmps46
  go_wp2_with fail
  go_ret
  exact ⟨rfl, rfl⟩
theorem fOf_any (x : ByteArray) (e : Int) (he : e ≠ 0) (w : World) : Calls Tryd.prog 46 #[.string x, .int .i64 e] w fun r w' => ∃ v', r = .returned v' ∧ ErrAt w' v' [x] (some e) ∧ v' ≠ .nilIface ∧ Below w.heap.size w w' := by
  have hq : (e == 0) = false := by simpa using he
  have HA := Lib.hid (fAt_any (ErrAt.num (w := w) e) (by simp) x)
  go_enter Tryd.func46, Tryd.ntmps46
  go_wp2_with (go_at_call 45; with_reducible refine HA.out.mono ?_; rintro r w1 ⟨v', rfl, hv, hn, hb⟩)
  go_ret
  exact ⟨v', rfl, hv, hn, hb⟩
end Go.Proofs.YtgoinpibllomfaaDoor

namespace Go.Proofs.YtgoinpibllomfaaDoor
open Go.RowKit

/-- Preferences: eight lists. -/
def PrefsAt (w : World) (v : Value) (p : Nat → List (List UInt8)) : Prop :=
  ∃ u : Nat → Value, v = .agg #[u 0, u 1, u 2, u 3, u 4, u 5, u 6, u 7] ∧ ∀ k < 8, TextsAt w (u k) ((p k).map bs)
theorem PrefsAt.below {w w' : World} {v : Value} {p : Nat → List (List UInt8)} (h : PrefsAt w v p) (hb : Below w.heap.size w w') : PrefsAt w' v p := by
  obtain ⟨u, rfl, h⟩ := h
  exact ⟨u, rfl, fun k hk => (h k hk).below hb⟩
/-- A slice of lists. -/
def Lists15 (w : World) (v : Value) (n : Nat) (p : Nat → List (List UInt8)) : Prop :=
  ∃ b off cap, v = .slice (some ⟨b, off, none⟩) n cap ∧ n ≤ cap ∧ b < w.heap.size ∧ ∀ k < n, ∃ u, w.cell? ⟨b, off + k, none⟩ = some u ∧ TextsAt w u ((p k).map bs)
theorem Lists15.below {w w' : World} {v : Value} {n : Nat} {p : Nat → List (List UInt8)} (h : Lists15 w v n p) (hb : Below w.heap.size w w') : Lists15 w' v n p := by
  obtain ⟨b, off, cap, rfl, hc, hlt, h⟩ := h
  refine ⟨b, off, cap, rfl, hc, Nat.lt_of_lt_of_le hlt hb.size, fun k hk => ?_⟩
  obtain ⟨u, h1, h2⟩ := h k hk
  exact ⟨u, (hb.cell (p := ⟨b, off + k, none⟩) hlt).trans h1, h2.below hb⟩
def Room15 (v : Value) : Prop := ∀ a n c, v = .slice a n c → n ≤ c
end Go.Proofs.YtgoinpibllomfaaDoor

namespace Go.Proofs.YtgoinpibllomfaaDoor
open Go.RowKit

def meCurve : List UInt8 := [99, 117, 114, 118, 101, 50, 53, 53, 49, 57, 45, 115, 104, 97, 50, 53, 54]
def meEcdh : List UInt8 := [101, 99, 100, 104, 45, 115, 104, 97, 50, 45, 110, 105, 115, 116, 112, 50, 53, 54]
def meGex : List UInt8 := [100, 105, 102, 102, 105, 101, 45, 104, 101, 108, 108, 109, 97, 110, 45, 103, 114, 111, 117, 112, 45, 101, 120, 99, 104, 97, 110, 103, 101, 45, 115, 104, 97, 50, 53, 54]
def methodP (x : List UInt8) : Int := if x = meCurve then 1 else if x = meEcdh then 2 else if x = meGex then 3 else 0
def pfWords : List (List UInt8) := [[107, 101, 120], [104, 111, 115, 116], [101, 110, 99, 45, 99], [101, 110, 99, 45, 115], [109, 97, 99, 45, 99], [109, 97, 99, 45, 115], [99, 111, 109, 112, 45, 99], [99, 111, 109, 112, 45, 115]]
def wordZ (i : Int) : List UInt8 := if 0 ≤ i ∧ i < 8 then pfWords.getD i.toNat [] else []
def methodZ (i : Int) : List UInt8 := if i = 1 then meCurve else if i = 2 then meEcdh else if i = 3 then meGex else []
/-- The two tables in memory. -/
def Tab15 (w : World) : Prop :=
  (∃ tt fr, w.heap[0]? = some (.cells #[.string ⟨#[]⟩, .string (bs meCurve), .string (bs meEcdh), .string (bs meGex)] tt fr)) ∧
  ∃ tt fr, w.heap[2]? = some (.cells (pfWords.map fun x => Value.string (bs x)).toArray tt fr)
theorem Tab15.lt {w : World} (h : Tab15 w) : 0 < w.heap.size ∧ 2 < w.heap.size := by
  obtain ⟨⟨_, _, h⟩, _, _, h'⟩ := h
  exact ⟨(Array.getElem?_eq_some_iff.1 h).1, (Array.getElem?_eq_some_iff.1 h').1⟩
theorem Tab15.below {w w' : World} (h : Tab15 w) (hb : Below w.heap.size w w') : Tab15 w' := by
  have hl := h.lt
  obtain ⟨⟨t1, f1, h1⟩, t2, f2, h2⟩ := h
  exact ⟨⟨t1, f1, (hb.block _ hl.1).trans h1⟩, t2, f2, (hb.block _ hl.2).trans h2⟩
end Go.Proofs.YtgoinpibllomfaaDoor

namespace Go.Proofs.YtgoinpibllomfaaDoor
open Go.RowKit

/-- What is wrong with the list i. -/
def oneP (i : Nat) (l : List (List UInt8)) : Int :=
  if l.length = 0 then 6 else if 15 < l.length then 2 else if ¬ ((∀ x ∈ l, rightL x = true) ∧ l.Nodup) then 3 else if i = 0 ∧ ¬ (∀ x ∈ l, methodP x ≠ 0) then 10 else 0
/-- The first list with which something is wrong. -/
def BadAt (p : Nat → List (List UInt8)) (k : Nat) : Prop := k < 8 ∧ (∀ j < k, oneP j (p j) = 0) ∧ oneP k (p k) ≠ 0
theorem bad_or (p : Nat → List (List UInt8)) : (∀ j < 8, oneP j (p j) = 0) ∨ ∃ k, BadAt p k := by
  have h : ∀ n ≤ 8, (∀ j < n, oneP j (p j) = 0) ∨ ∃ k, BadAt p k := by
    intro n
    induction n with
    | zero => exact fun _ => .inl fun j h => absurd h (by omega)
    | succ n ih =>
      intro hn
      rcases ih (by omega) with h | h
      · by_cases hz : oneP n (p n) = 0
        · refine .inl fun j hj => ?_
          rcases Nat.lt_or_eq_of_le (Nat.le_of_lt_succ hj) with h1 | rfl
          · exact h j h1
          · exact hz
        · exact .inr ⟨n, by omega, h, hz⟩
      · exact .inr h
  exact h 8 (Nat.le_refl _)

end Go.Proofs.YtgoinpibllomfaaDoor

namespace Go.Proofs.YtgoinpibllomfaaDoor
open Go.RowKit

/-- An error that a check returns, or none. -/
def ErrIs (w : World) (o : Option (List ByteArray × Int)) (v : Value) : Prop := match o with
  | none => v = .nilIface
  | some q => ∃ t u, v = .iface t u ∧ ErrAt w (.iface t u) q.1 (some q.2)
theorem ErrIs.later {w w' : World} {o : Option (List ByteArray × Int)} {v : Value} (h : ErrIs w o v) (hb : Below w.heap.size w w') : ErrIs w' o v := by
  cases o with
  | none => exact h
  | some q =>
    obtain ⟨t, u, h1, h2⟩ := h
    exact ⟨t, u, h1, h2.later hb⟩
/-- What a call that checks returns. -/
def Checked (w : World) (o : Option (List ByteArray × Int)) (e : Ending) (w' : World) : Prop := ∃ v, e = .returned v ∧ ErrIs w' o v ∧ Below w.heap.size w w'

/-- The cells of a configuration. -/
structure CfV where
  sv : Bool
  so : ByteArray
  co : ByteArray
  a0 : Option Addr
  n0 : Nat
  c0 : Nat
  a1 : Option Addr
  n1 : Nat
  c1 : Nat
  a2 : Option Addr
  n2 : Nat
  c2 : Nat
  a3 : Option Addr
  n3 : Nat
  c3 : Nat
  a4 : Option Addr
  n4 : Nat
  c4 : Nat
  a5 : Option Addr
  n5 : Nat
  c5 : Nat
  a6 : Option Addr
  n6 : Nat
  c6 : Nat
  a7 : Option Addr
  n7 : Nat
  c7 : Nat
  aa : Option Addr
  na : Nat
  ca : Nat
  ow : Int
  ag : Option Addr
  ng : Nat
  cg : Nat
  li : Int
  pe : Int
  us : ByteArray
  ak : Option Addr
  nk : Nat
  ck : Nat
  ex : Bool
  gu : Bool
  w0 : Nat
  w1 : Nat
  w2 : Nat
def CfV.u (c : CfV) : Nat → Value
  | 0 => .slice c.a0 c.n0 c.c0
  | 1 => .slice c.a1 c.n1 c.c1
  | 2 => .slice c.a2 c.n2 c.c2
  | 3 => .slice c.a3 c.n3 c.c3
  | 4 => .slice c.a4 c.n4 c.c4
  | 5 => .slice c.a5 c.n5 c.c5
  | 6 => .slice c.a6 c.n6 c.c6
  | _ => .slice c.a7 c.n7 c.c7
def CfV.row (c : CfV) : Array Value := #[.bool c.sv, .string c.so, .string c.co, .slice c.a0 c.n0 c.c0, .slice c.a1 c.n1 c.c1, .slice c.a2 c.n2 c.c2, .slice c.a3 c.n3 c.c3, .slice c.a4 c.n4 c.c4, .slice c.a5 c.n5 c.c5, .slice c.a6 c.n6 c.c6, .slice c.a7 c.n7 c.c7, .slice c.aa c.na c.ca, .int .i64 c.ow, .slice c.ag c.ng c.cg, .int .i64 c.li, .int .i64 c.pe, .string c.us, .slice c.ak c.nk c.ck, .bool c.ex, .bool c.gu, .int .u32 (c.w0 : Int), .int .u32 (c.w1 : Int), .int .u32 (c.w2 : Int)]
/-- The texts, lists and keys of a configuration. -/
structure CfL where
  so : List UInt8
  co : List UInt8
  us : List UInt8
  p : Nat → List (List UInt8)
  al : List (List UInt8)
  gr : List GrantR
  ks : List Int
structure CfAt (w : World) (c : CfV) (d : CfL) : Prop where
  so : c.so = bs d.so
  co : c.co = bs d.co
  us : c.us = bs d.us
  pf : ∀ k < 8, TextsAt w (c.u k) ((d.p k).map bs)
  al : TextsAt w (.slice c.aa c.na c.ca) (d.al.map bs)
  gr : GrantsAt w (.slice c.ag c.ng c.cg) d.gr
  ks : IdsAt w (.slice c.ak c.nk c.ck) d.ks
theorem CfAt.below {w w' : World} {c : CfV} {d : CfL} (h : CfAt w c d) (hb : Below w.heap.size w w') : CfAt w' c d :=
  ⟨h.so, h.co, h.us, fun k hk => (h.pf k hk).below hb, h.al.below hb, h.gr.below hb, h.ks.keep hb.size fun _ _ _ _ _ hlt => hb.cell hlt⟩
/-- Of a size that a walk can count. -/
structure CfSized (d : CfL) : Prop where
  so : d.so.length ≤ 10000
  co : d.co.length ≤ 10000
  us : d.us.length ≤ 10000
  p : ∀ k < 8, (d.p k).length ≤ 1000 ∧ ∀ x ∈ d.p k, x.length ≤ 10000
  al : d.al.length ≤ 1000 ∧ ∀ x ∈ d.al, x.length ≤ 10000
  gr : d.gr.length ≤ 1000 ∧ ∀ x ∈ d.gr, x.user.length ≤ 10000
  ks : d.ks.length ≤ 1000

def whoB (z : Int) : Bool := decide (0 ≤ z) && decide (z ≤ 15)
/-- What is wrong within a part. -/
def unlessP (b : Bool) (x : ByteArray) (e : Int) : Option (List ByteArray × Int) := if b then none else some ([x], e)
end Go.Proofs.YtgoinpibllomfaaDoor
