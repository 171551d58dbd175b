/- Layer 13: the law StreamPieces. -/
import Derived.Test.YtlalkpgipenkaaaSx9
import Derived.BigRegion
namespace Go.Proofs.Ytlalkpgipenkaaa
open Go.RowKit

/-- A slice value that reads as these bytes. -/
def Bytes13 (w : World) (v : Value) (l : List UInt8) : Prop :=
  ∃ ao cap, v = .slice ao l.length cap ∧ (l ≠ [] → ∃ b off, ao = some ⟨b, off, none⟩ ∧ b < w.heap.size ∧ ∀ k x, l[k]? = some x → w.cell? ⟨b, off + k, none⟩ = some (.int .u8 (x.toNat : Int)))

/-- The stream x with all that came, and the stream y with what was taken of it. -/
structure PcAt (B X Y : Nat) (s : List UInt8) (Fx : Nat → Prop) (l : List UInt8) (e : Nat) (v : Value) (its : List (List UInt8)) (w wr : World) : Prop where
  x : StAt B X s 0 Fx wr
  y : ∃ G, DrAt B Y l e v its G wr ∧ ∀ k, G k → ¬ Fx k
  bel : Below B w wr
theorem PcAt.step {B X Y : Nat} {s : List UInt8} {Fx G : Nat → Prop} {l l' : List UInt8} {e e' : Nat} {v v' : Value} {its its' : List (List UInt8)} {w wr w1 : World} (h : PcAt B X Y s Fx l e v its w wr) (hG : DrAt B Y l e v its G wr) (hGF : ∀ k, G k → ¬ Fx k) (hB : B ≤ wr.heap.size) (h1 : DrLeft B Y l' e' v' its' G wr w1) : PcAt B X Y s Fx l' e' v' its' w w1 := by
  obtain ⟨G', a1, m1, f1⟩ := h1
  refine ⟨h.x.moves m1 (fun k hk hg => hGF k hg hk), ⟨G', a1, fun k hk hx => ?_⟩, h.bel.trans (m1.below hB (fun k hk => (hG.lt k hk).1))⟩
  rcases f1 k hk with h2 | h2
  · exact hGF k h2 hx
  · have := (h.x.lt k hx).2; omega
theorem DrAt.feed {B X : Nat} {l : List UInt8} {e : Nat} {v : Value} {its : List (List UInt8)} {G : Nat → Prop} {w : World} (h : DrAt B X l e v its G w) (p : List UInt8) (hl : l.length + p.length ≤ 1000000) :
    Calls Try.prog 9 #[.pointer (some ⟨X, 0, none⟩), .string (bs p)] w fun r w' => r = .returned (.tuple #[]) ∧ DrLeft B X (if e = 0 then l ++ p else l) e v its G w w' := by
  obtain ⟨F, s, r, rfl⟩ := h
  exact (xFeed_any s p hl).mono fun a w' ⟨h1, h2⟩ => ⟨h1, DrAt.took s r h2⟩
theorem PcAt.feed {B X Y : Nat} {s : List UInt8} {Fx : Nat → Prop} {l : List UInt8} {e : Nat} {v : Value} {its : List (List UInt8)} {w wr : World} (h : PcAt B X Y s Fx l e v its w wr) (hB : B ≤ wr.heap.size) (p : List UInt8) (hl : l.length + p.length ≤ 1000000) :
    Calls Try.prog 9 #[.pointer (some ⟨Y, 0, none⟩), .string (bs p)] wr fun r w' => r = .returned (.tuple #[]) ∧ PcAt B X Y s Fx (if e = 0 then l ++ p else l) e v its w w' := by
  obtain ⟨G, hG, hGF⟩ := h.y
  exact (hG.feed p hl).mono fun r w' ⟨h1, h2⟩ => ⟨h1, h.step hG hGF hB h2⟩
theorem PcAt.drain {B X Y : Nat} {s : List UInt8} {Fx : Nat → Prop} {l : List UInt8} {e : Nat} {v : Value} {its : List (List UInt8)} {w wr : World} (h : PcAt B X Y s Fx l e v its w wr) (hB : B ≤ wr.heap.size) (hl : l.length ≤ 2000) (hn : its.length ≤ 100000) (lined : Bool) :
    Calls Try.prog 19 #[.pointer (some ⟨Y, 0, none⟩), v, .bool lined] wr fun r w' => ∃ v', r = .returned (.tuple #[v', .bool (drainP lined l e).2.1]) ∧ PcAt B X Y s Fx (drainP lined l e).2.2.1 (drainP lined l e).2.2.2 v' (its ++ (drainP lined l e).1) w w' := by
  obtain ⟨G, hG, hGF⟩ := h.y
  exact (drain_any hG hl hn hB lined).mono fun r w' ⟨v', h1, h2⟩ => ⟨v', h1, h.step hG hGF hB h2⟩
theorem PcAt.form {B X Y : Nat} {s : List UInt8} {Fx : Nat → Prop} {l : List UInt8} {e : Nat} {v : Value} {its : List (List UInt8)} {w wr : World} (h : PcAt B X Y s Fx l e v its w wr) : ∃ ao c, v = .slice ao its.length c := by
  obtain ⟨G, ⟨F, s, r, _⟩, _⟩ := h.y
  exact rowSl r
/-- At the end: x taken too. -/
structure PcEnd (B X Y : Nat) (l : List UInt8) (e : Nat) (va vb : Value) (its : List (List UInt8)) (w wr : World) : Prop where
  x : ∃ G, DrAt B X l e va its G wr
  y : ∃ G, DrAt B Y l e vb its G wr
  bel : Below B w wr
theorem PcAt.last {B X Y : Nat} {s : List UInt8} {Fx : Nat → Prop} {l : List UInt8} {e : Nat} {v : Value} {its : List (List UInt8)} {lined : Bool} {w wr : World} (h : PcAt B X Y s Fx l e v its w wr) (hB : B ≤ wr.heap.size) (hs : s.length ≤ 2000) (hd : drainP false s 0 = (its, lined, l, e)) :
    Calls Try.prog 19 #[.pointer (some ⟨X, 0, none⟩), .slice none 0 0, .bool false] wr fun r w' => ∃ ga ca, r = .returned (.tuple #[.slice ga its.length ca, .bool lined]) ∧ PcEnd B X Y l e (.slice ga its.length ca) v its w w' := by
  obtain ⟨G, hG, hGF⟩ := h.y
  have hx : DrAt B X s 0 (.slice none 0 0) [] Fx wr := ⟨Fx, h.x, World.ownsRow_nil wr B 9 1, by funext k; simp [Value.ownBlock]⟩
  have := drain_any hx hs (by simp) hB false
  rw [hd] at this
  refine this.mono fun r w' ⟨v', h1, G', a1, m1, f1⟩ => ?_
  rw [List.nil_append] at a1
  have a2 := a1
  obtain ⟨F, s1, r1, _⟩ := a1
  obtain ⟨ga, ca, rfl⟩ := rowSl r1
  exact ⟨ga, ca, h1, ⟨G', a2⟩, ⟨G, hG.moves m1 (fun k hk hx => hGF k hk hx)⟩, h.bel.trans (m1.below hB (fun k hk => (h.x.lt k hk).1))⟩
theorem DrAt.left {B X : Nat} {l : List UInt8} {e : Nat} {v : Value} {its : List (List UInt8)} {G : Nat → Prop} {w : World} (h : DrAt B X l e v its G w) : Calls Try.prog 17 #[.pointer (some ⟨X, 0, none⟩)] w fun r w' => r = .returned (.int .i64 (l.length : Int)) ∧ w' = w := by
  obtain ⟨F, s, r, _⟩ := h
  obtain ⟨ao, cap, hc⟩ := s.cell0
  exact xLeft_any hc
theorem DrAt.broken {B X : Nat} {l : List UInt8} {e : Nat} {v : Value} {its : List (List UInt8)} {G : Nat → Prop} {w : World} (h : DrAt B X l e v its G w) : Calls Try.prog 18 #[.pointer (some ⟨X, 0, none⟩)] w fun r w' => r = .returned (.int .i64 (e : Int)) ∧ w' = w := by
  obtain ⟨F, s, r, _⟩ := h
  exact xBroken_any s.cell1
theorem DrAt.at_ {B X : Nat} {l : List UInt8} {e : Nat} {v : Value} {its : List (List UInt8)} {G : Nat → Prop} {w : World} (h : DrAt B X l e v its G w) : ∃ ao c, v = .slice ao its.length c ∧ ∀ k x, its[k]? = some x → ∃ g, ao = some ⟨g, 0, none⟩ ∧ w.cell? ⟨g, k, none⟩ = some (.string (bs x)) := by
  obtain ⟨F, s, r, _⟩ := h
  have hr := r
  rcases r.2 with ⟨rfl, h0⟩ | ⟨g, cap, cur, rfl, _⟩
  · exact ⟨none, 0, by rw [h0], fun k x hk => by have := (List.getElem?_eq_some_iff.1 hk).1; omega⟩
  · refine ⟨_, _, rfl, fun k x hk => ⟨g, rfl, ?_⟩⟩
    have := hr.cells (g := g) rfl k (.string (bs x)) (by simp [strs, hk])
    rw [Addr.add_lit, Nat.zero_add] at this
    exact this
theorem DrAt.cell {B X : Nat} {l : List UInt8} {e n c : Nat} {ao : Option Addr} {its : List (List UInt8)} {G : Nat → Prop} {w : World} (h : DrAt B X l e (.slice ao n c) its G w) {k : Nat} {x : List UInt8} (hk : its[k]? = some x) : ∃ g, ao = some ⟨g, 0, none⟩ ∧ w.cell? ⟨g, k, none⟩ = some (.string (bs x)) := by
  obtain ⟨ao', c', hv, hat⟩ := h.at_
  injection hv with h1 h2 h3
  subst h1
  exact hat k x hk
theorem DrAt.drewN {B X : Nat} {l : List UInt8} {e : Nat} {v : Value} {its : List (List UInt8)} {G : Nat → Prop} {w : World} (h : DrAt B X l e v its G w) (n : Nat) : DrAt B X l e v its G (w.drewN n) := h.moves ((Moves.refl nobody _).drewN n) (fun _ _ h => h)
theorem PcEnd.drewN {B X Y : Nat} {l : List UInt8} {e : Nat} {va vb : Value} {its : List (List UInt8)} {w wr : World} (h : PcEnd B X Y l e va vb its w wr) (n : Nat) : PcEnd B X Y l e va vb its w (wr.drewN n) := by
  obtain ⟨G1, h1⟩ := h.x
  obtain ⟨G2, h2⟩ := h.y
  exact ⟨⟨G1, h1.drewN n⟩, ⟨G2, h2.drewN n⟩, ⟨h.bel.os, h.bel.tape, h.bel.output, h.bel.size, h.bel.block⟩⟩
theorem stCut (s : List UInt8) (a b : Nat) : (bs s).extract a b = bs ((s.take b).drop a) := by
  apply ByteArray.ext
  apply Array.ext'
  simp [bs, ByteArray.data_extract, List.drop_take]

theorem stSlice (s : List UInt8) (a b : Nat) (hab : a ≤ b) (hb : b ≤ s.length) (W : World) : (Instr.slice 9 (.string (bs s)) (some (.int .i64 (a : Int))) (some (.int .i64 (b : Int))) none).run Try.prog W = .ok (.string (bs ((s.take b).drop a))) W := by
  have hsz := bs_size s
  rw [← stCut s a b]
  simp [Instr.slice, run_underlying Try.underlying9, Instr.sliceBounds, run_sliceBound, hsz, show (a : Int) ≤ (b : Int) by omega, show (b : Int) ≤ (s.length : Int) by omega]

theorem pc_next {s : List UInt8} (hs : s.length ≤ 2000) {f t : Nat} (hft : f ≤ t) {its : List (List UInt8)} {lined : Bool} {l : List UInt8} {e : Nat} (h : drainP false (s.take f) 0 = (its, lined, l, e)) :
    drainP false (s.take t) 0 = (its ++ (drainP lined (if e = 0 then l ++ (s.take t).drop f else l) e).1, (drainP lined (if e = 0 then l ++ (s.take t).drop f else l) e).2) := by
  have e1 : s.take f ++ (s.take t).drop f = s.take t := by
    have : (s.take t).take f = s.take f := by rw [List.take_take, show min f t = f by omega]
    rw [← this, List.take_append_drop]
  have := drainP_next (s.take f) ((s.take t).drop f) (by rw [e1, List.length_take]; omega)
  rw [e1, h] at this
  exact this
/-- What is left is part of what came. -/
theorem pc_left {s : List UInt8} {f : Nat} {its : List (List UInt8)} {lined : Bool} {l : List UInt8} {e : Nat} (h : drainP false (s.take f) 0 = (its, lined, l, e)) : l.length ≤ f := by
  have hl : (s.take f).length ≤ f := List.length_take_le _ _
  generalize s.take f = t at *
  unfold drainP at h
  rw [if_neg (by simp)] at h
  have h1 := stTake_len (lnScan t) t 0
  split at h
  · have h2 := drainU_len 600 (stTake (lnScan t) t 0).2.2.2.1 (stTake (lnScan t) t 0).2.2.2.2
    simp only [Prod.mk.injEq] at h
    rw [h.2.2.1] at h2
    omega
  · simp only [Prod.mk.injEq] at h
    rw [h.2.2.1] at h1
    omega
/-- At most one line and 600 units a time. -/
theorem drainU_many : ∀ (n : Nat) (l : List UInt8) (e : Nat), (drainU n l e).1.length ≤ n
  | 0, _, _ => Nat.le_refl _
  | n + 1, l, e => by
    rw [drainU]
    split
    · have := drainU_many n (stTake (stUnit l) l e).2.2.2.1 (stTake (stUnit l) l e).2.2.2.2
      simp only [List.length_cons]; omega
    · exact Nat.zero_le _
theorem pc_many {t : List UInt8} {its : List (List UInt8)} {lined : Bool} {l : List UInt8} {e : Nat} (h : drainP false t 0 = (its, lined, l, e)) : its.length ≤ 601 := by
  unfold drainP at h
  rw [if_neg (by simp)] at h
  split at h
  · have h2 := drainU_many 600 (stTake (lnScan t) t 0).2.2.2.1 (stTake (lnScan t) t 0).2.2.2.2
    simp only [Prod.mk.injEq] at h
    rw [← h.1]
    simp only [List.length_cons]; omega
  · simp only [Prod.mk.injEq] at h
    rw [← h.1]; exact Nat.zero_le _
end Go.Proofs.Ytlalkpgipenkaaa
