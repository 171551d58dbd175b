/- Layer 21: the law KeysApart: the walk. -/
import Derived.Test.YtemhifeddejkjaaKy7
import Derived.Test.YtemhifeddejkjaaKyA
import Derived.Deep.RegionHeld3
import Derived.BigQuiet
namespace Go.Proofs.Ytemhifeddejkjaa
open Go.RowKit

def at3 {α : Type} (a b c : α) (L : Nat) : α := if L = 0 then a else if L = 1 then b else c
def row3 (a b c : Int) (L : Nat) : Array Value := #[.int .i64 (if 0 < L then a else 0), .int .i64 (if 1 < L then b else 0), .int .i64 (if 2 < L then c else 0)]
theorem row3_get (a b c : Int) {L : Nat} (h : L < 3) : (row3 a b c L)[L]? = some (.int .i64 0) := by
  match L, h with
  | 0, _ => rfl
  | 1, _ => rfl
  | 2, _ => rfl
theorem row3_at (a b c : Int) {L : Nat} (h : L < 3) : (row3 a b c (L + 1))[L]? = some (.int .i64 (at3 a b c L)) := by
  match L, h with
  | 0, _ => rfl
  | 1, _ => rfl
  | 2, _ => rfl
theorem row3_set (a b c : Int) {L : Nat} (h : L < 3) : (row3 a b c L).setIfInBounds L (.int .i64 (at3 a b c L)) = row3 a b c (L + 1) := by
  match L, h with
  | 0, _ => rfl
  | 1, _ => rfl
  | 2, _ => rfl
theorem ints3_get {a b c : Int} {W : World} {N : Nat} (h : Holds W N 23 #[.int .i64 a, .int .i64 b, .int .i64 c]) {L : Nat} (hL : L < 3) : W.cell? ⟨N, L, none⟩ = some (.int .i64 (at3 a b c L)) := by
  rw [h.cell]
  match L, hL with
  | 0, _ => rfl
  | 1, _ => rfl
  | 2, _ => rfl
/-- A round's state: both rows as far as they are filled. -/
structure Ra (B : Nat) (w0 : World) (A : Nat) (P : List (Int × List UInt8)) (w2 : World) (M : Array Value) (PB QB : Nat) (rp rq : Array Value) (W : World) : Prop where
  ta : Ta B w0 A P 20 W
  bel : Below w2.heap.size w2 W
  made : Holds W w2.heap.size 31 M
  p : Holds W PB 45 rp
  q : Holds W QB 45 rq
section
variable {B A : Nat} {w0 w2 W : World} {P : List (Int × List UInt8)} {M rp rq : Array Value} {PB QB : Nat}
theorem Ra.below {W' : World} (h : Ra B w0 A P w2 M PB QB rp rq W) (hb : Below W.heap.size W W') : Ra B w0 A P w2 M PB QB rp rq W' :=
  ⟨h.ta.below hb, h.bel.trans (hb.mono h.bel.size), (Kept.ofBelow hb).hold _ _ _ (by decide) (by decide) h.made, (Kept.ofBelow hb).hold _ _ _ (by decide) (by decide) h.p, (Kept.ofBelow hb).hold _ _ _ (by decide) (by decide) h.q⟩
theorem Ra.setP (h : Ra B w0 A P w2 M PB QB rp rq W) (hne : PB ≠ QB) (hB : B ≤ PB) (h2 : w2.heap.size < PB) {L : Nat} {v : Value} : Ra B w0 A P w2 M PB QB (rp.setIfInBounds L v) rq (W.setCell ⟨PB, L, none⟩ v) := by
  have mv : Moves (fun i => i = PB) W (W.setCell ⟨PB, L, none⟩ v) := (Moves.refl (fun i => i = PB) W).setCell (p := ⟨PB, L, none⟩) (.inl rfl) v
  exact ⟨h.ta.set h.p (by decide) (by decide) hB _ _, h.bel.setCell (p := ⟨PB, L, none⟩) (Nat.le_of_lt h2) v, h.made.moves mv (fun e => by omega), Holds.set h.p L v, h.q.moves mv (fun e => hne e.symm)⟩
theorem Ra.setQ (h : Ra B w0 A P w2 M PB QB rp rq W) (hne : PB ≠ QB) (hB : B ≤ QB) (h2 : w2.heap.size < QB) {L : Nat} {v : Value} : Ra B w0 A P w2 M PB QB rp (rq.setIfInBounds L v) (W.setCell ⟨QB, L, none⟩ v) := by
  have mv : Moves (fun i => i = QB) W (W.setCell ⟨QB, L, none⟩ v) := (Moves.refl (fun i => i = QB) W).setCell (p := ⟨QB, L, none⟩) (.inl rfl) v
  exact ⟨h.ta.set h.q (by decide) (by decide) hB _ _, h.bel.setCell (p := ⟨QB, L, none⟩) (Nat.le_of_lt h2) v, h.made.moves mv (fun e => by omega), h.p.moves mv (fun e => hne e), Holds.set h.q L v⟩
end
/-- What stands behind the two calls of Six: two rows of six. -/
def KCut (B : Nat) (w0 : World) (A : Nat) (PP : List (Int × List UInt8)) (P0 P1 P2 Q0 Q1 Q2 : List UInt8) (wr : World) (v12 v13 : Value) (W : World) : Prop :=
  ∃ (k0 k1 k2 k3 k4 k5 m0 m1 m2 m3 m4 m5 : Int) (b c : Nat), v12 = .pointer (some ⟨b, 0, none⟩) ∧ v13 = .pointer (some ⟨c, 0, none⟩) ∧ SixTwo B w0 A (sixP Q0 Q1 Q2 [m0, m1, m2, m3, m4, m5] ++ (sixP P0 P1 P2 [k0, k1, k2, k3, k4, k5] ++ PP)) 32 wr #[.int .i64 k0, .int .i64 k1, .int .i64 k2, .int .i64 k3, .int .i64 k4, .int .i64 k5] #[.int .i64 m0, .int .i64 m1, .int .i64 m2, .int .i64 m3, .int .i64 m4, .int .i64 m5] b c W
theorem KCut.mk {B : Nat} {w0 : World} {A : Nat} {PP : List (Int × List UInt8)} {P0 P1 P2 Q0 Q1 Q2 : List UInt8} {wr W : World} {k0 k1 k2 k3 k4 k5 m0 m1 m2 m3 m4 m5 : Int} {b c : Nat} (h : SixTwo B w0 A (sixP Q0 Q1 Q2 [m0, m1, m2, m3, m4, m5] ++ (sixP P0 P1 P2 [k0, k1, k2, k3, k4, k5] ++ PP)) 32 wr #[.int .i64 k0, .int .i64 k1, .int .i64 k2, .int .i64 k3, .int .i64 k4, .int .i64 k5] #[.int .i64 m0, .int .i64 m1, .int .i64 m2, .int .i64 m3, .int .i64 m4, .int .i64 m5] b c W) : KCut B w0 A PP P0 P1 P2 Q0 Q1 Q2 wr (.pointer (some ⟨b, 0, none⟩)) (.pointer (some ⟨c, 0, none⟩)) W := ⟨_, _, _, _, _, _, _, _, _, _, _, _, b, c, rfl, rfl, h⟩
set_option maxHeartbeats 8000000 in
set_option maxRecDepth 100000 in
theorem KeysApart_small {w : World} {v : Value} {l : List MakeR} (hM : MakesAt w v l) (hl : l.length ≤ 20) (hs : ∀ x ∈ l, x.s.length ≤ 200) (x0 x1 x2 y0 y1 y2 : Int) :
    Calls Try.prog 4 #[v, .agg #[.int .i64 x0, .int .i64 x1, .int .i64 x2], .agg #[.int .i64 y0, .int .i64 y1, .int .i64 y2]] w fun e w' => e = .returned (.bool true) ∧ Below w.heap.size w w' := by
  have hfew : fewP l 20 = true := decide_eq_true ⟨by omega, hs⟩
  have b0 : Below w.heap.size w ((w.alloc (.cells #[.int .i64 x0, .int .i64 x1, .int .i64 x2] 23)).alloc (.cells #[.int .i64 y0, .int .i64 y1, .int .i64 y2] 23)) := ((Below.refl _ _).alloc (Nat.le_refl _) _).alloc (by simp) _
  have hX : Holds ((w.alloc (.cells #[.int .i64 x0, .int .i64 x1, .int .i64 x2] 23)).alloc (.cells #[.int .i64 y0, .int .i64 y1, .int .i64 y2] 23)) w.heap.size 23 #[.int .i64 x0, .int .i64 x1, .int .i64 x2] := (Holds.new w 23 _).moves ((Moves.refl nobody _).alloc _) (fun h => h)
  have hY : Holds ((w.alloc (.cells #[.int .i64 x0, .int .i64 x1, .int .i64 x2] 23)).alloc (.cells #[.int .i64 y0, .int .i64 y1, .int .i64 y2] 23)) (w.heap.size + 1) 23 #[.int .i64 y0, .int .i64 y1, .int .i64 y2] := by
    have := Holds.new (w.alloc (.cells #[.int .i64 x0, .int .i64 x1, .int .i64 x2] 23)) 23 #[.int .i64 y0, .int .i64 y1, .int .i64 y2]
    rwa [World.size_alloc] at this
  obtain ⟨W0, hW0⟩ : ∃ W0, Hid (W0 = (w.alloc (.cells #[.int .i64 x0, .int .i64 x1, .int .i64 x2] 23)).alloc (.cells #[.int .i64 y0, .int .i64 y1, .int .i64 y2] 23)) := ⟨_, Lib.hid rfl⟩
  rw [← hW0.out] at b0 hX hY
  have hM0 := makes_belowK hM b0
  have HFw := few_any hM0 20 (fun x hx => by have := hs x hx; omega) (by omega)
  rw [hfew] at HFw
  have HF := Lib.hid HFw
  have HN := Lib.hid (taNew W0)
  have HMk : Hid (∀ (A : Nat) (W : World), Ta W0.heap.size W0 A [] 0 W → Calls Try.prog 8 #[.pointer (some ⟨A, 0, none⟩), v] W fun e w' => ∃ (ids : List Int) (texts : List (List UInt8)) (ai : Option Addr) (ci : Nat) (at' : Option Addr) (ct : Nat), e = .returned (.agg #[.slice ai l.length ci, .slice at' l.length ct]) ∧
      (ids.length = l.length ∧ texts.length = l.length) ∧ IdsAt w' (.slice ai l.length ci) ids ∧ TextsAt w' (.slice at' l.length ct) (texts.map bs) ∧ Ta W0.heap.size W0 A (ids.zip texts) l.length w') := fun A W h => taMakes hM0 (Below.refl _ _) (Nat.le_refl _) h (by omega) (fun x hx => by have := hs x hx; omega)
  obtain ⟨ao0, cap0, rfl, hcl⟩ := id hM0
  have HX := Lib.hid hX
  have HY := Lib.hid hY
  have HB0 := Lib.hid b0
  clear hM hM0 hs hfew hX hY b0 HFw hcl
  go_enter Try.func4, Try.ntmps4
  go_upto_region 6 with (first
    | (go_at_call 5; rw [← hW0.out]; (with_reducible refine HF.out.mono ?_); rintro e w' ⟨rfl, hw⟩; have hw := hw.symm; subst hw)
    | (go_at_call 7; (with_reducible refine HN.out.mono ?_); rintro e w1 ⟨A, rfl, t1⟩)
    | (go_at_call 8; (with_reducible refine (HMk.out _ _ t1).mono ?_); rintro e w2 ⟨ids, texts, ai, ci, at', ct, rfl, hln, hI, hT, t2⟩))
  obtain ⟨W5, hW5⟩ : ∃ W5, W5 = ((w2.alloc (.cells #[.slice ai l.length ci, .slice at' l.length ct] 31)).alloc (.cells #[.int .i64 0, .int .i64 0, .int .i64 0] 45)).alloc (.cells #[.int .i64 0, .int .i64 0, .int .i64 0] 45) := ⟨_, rfl⟩
  obtain ⟨PB, hPB⟩ : ∃ PB, Hid (w2.heap.size + 1 = PB) := ⟨_, Lib.hid rfl⟩
  obtain ⟨QB, hQB⟩ : ∃ QB, Hid (w2.heap.size + 1 + 1 = QB) := ⟨_, Lib.hid rfl⟩
  rw [← hW5, hQB.out, hPB.out]
  have b5 : Below w2.heap.size w2 W5 := by rw [hW5]; exact (((Below.refl _ _).alloc (Nat.le_refl _) _).alloc (by simp) _).alloc (by simp; omega) _
  have hm5 : Holds W5 w2.heap.size 31 #[.slice ai l.length ci, .slice at' l.length ct] := by
    rw [hW5]
    exact ((Holds.new w2 31 _).moves ((Moves.refl nobody _).alloc _) (fun h => h)).moves ((Moves.refl nobody _).alloc _) (fun h => h)
  have hp5 : Holds W5 PB 45 #[.int .i64 0, .int .i64 0, .int .i64 0] := by
    rw [hW5, ← hPB.out]
    have := (Holds.new (w2.alloc (.cells #[.slice ai l.length ci, .slice at' l.length ct] 31)) 45 #[.int .i64 0, .int .i64 0, .int .i64 0]).moves ((Moves.refl nobody _).alloc (.cells #[.int .i64 0, .int .i64 0, .int .i64 0] 45)) (fun h => h)
    rwa [World.size_alloc] at this
  have hq5 : Holds W5 QB 45 #[.int .i64 0, .int .i64 0, .int .i64 0] := by
    rw [hW5, ← hQB.out]
    have := Holds.new ((w2.alloc (.cells #[.slice ai l.length ci, .slice at' l.length ct] 31)).alloc (.cells #[.int .i64 0, .int .i64 0, .int .i64 0] 45)) 45 #[.int .i64 0, .int .i64 0, .int .i64 0]
    rwa [World.size_alloc, World.size_alloc] at this
  have t5 : Ta W0.heap.size W0 A (ids.zip texts) l.length W5 := t2.below b5
  have hBs : W0.heap.size ≤ w2.heap.size := t2.bel.size
  have hln' : ids.length = texts.length := by omega
  have hPk : ∀ (i : Int) (W : World), Below w2.heap.size w2 W → Calls Try.prog 9 #[.agg #[.slice ai l.length ci, .slice at' l.length ct], .int .i64 i] W fun e w' => e = .returned (.tuple #[.int .i64 (pickP ids texts i).1, .string (bs (pickP ids texts i).2)]) ∧ Below W.heap.size W w' := fun i W hb => Pick_any (hI.below hb) (hT.below hb) (by omega) (by omega) i
  have hp0 := pick_in hln' x0
  have HP0 := hPk x0
  have hp1 := pick_in hln' x1
  have HP1 := hPk x1
  have hp2 := pick_in hln' x2
  have HP2 := hPk x2
  have hq0 := pick_in hln' y0
  have HQ0 := hPk y0
  have hq1 := pick_in hln' y1
  have HQ1 := hPk y1
  have hq2 := pick_in hln' y2
  have HQ2 := hPk y2
  generalize pickP ids texts x0 = rp0 at *
  generalize pickP ids texts x1 = rp1 at *
  generalize pickP ids texts x2 = rp2 at *
  generalize pickP ids texts y0 = rq0 at *
  generalize pickP ids texts y1 = rq1 at *
  generalize pickP ids texts y2 = rq2 at *
  obtain ⟨p0, P0⟩ := rp0
  obtain ⟨p1, P1⟩ := rp1
  obtain ⟨p2, P2⟩ := rp2
  obtain ⟨q0, Q0⟩ := rq0
  obtain ⟨q1, Q1⟩ := rq1
  obtain ⟨q2, Q2⟩ := rq2
  simp only at HP0 HP1 HP2 HQ0 HQ1 HQ2
  have t6 : Ta W0.heap.size W0 A [(q2, Q2), (q1, Q1), (q0, Q0), (p2, P2), (p1, P1), (p0, P0)] 20 W5 := ((((((t5.cons hp0).cons (hp1.imp_left fun h => .tail _ (h))).cons (hp2.imp_left fun h => .tail _ (.tail _ (h)))).cons (hq0.imp_left fun h => .tail _ (.tail _ (.tail _ (h))))).cons (hq1.imp_left fun h => .tail _ (.tail _ (.tail _ (.tail _ (h)))))).cons (hq2.imp_left fun h => .tail _ (.tail _ (.tail _ (.tail _ (.tail _ (h))))))).mono (by omega) (fun p hp => by
    simp only [List.mem_cons, List.not_mem_nil, or_false] at hp
    rcases hp with rfl | rfl | rfl | rfl | rfl | rfl
    · exact .head _
    · exact .tail _ (.head _)
    · exact .tail _ (.tail _ (.head _))
    · exact .tail _ (.tail _ (.tail _ (.head _)))
    · exact .tail _ (.tail _ (.tail _ (.tail _ (.head _))))
    · exact .tail _ (.tail _ (.tail _ (.tail _ (.tail _ (.head _))))))
  have HPk : Hid (∀ (L : Nat) (W : World), L < 3 → Below w2.heap.size w2 W → Calls Try.prog 9 #[.agg #[.slice ai l.length ci, .slice at' l.length ct], .int .i64 (at3 x0 x1 x2 L)] W fun e w' => e = .returned (.tuple #[.int .i64 (at3 p0 p1 p2 L), .string (bs (at3 P0 P1 P2 L))]) ∧ Below W.heap.size W w') := fun L W hL hb => by
    match L, hL with
    | 0, _ => exact HP0 W hb
    | 1, _ => exact HP1 W hb
    | 2, _ => exact HP2 W hb
  have HQk : Hid (∀ (L : Nat) (W : World), L < 3 → Below w2.heap.size w2 W → Calls Try.prog 9 #[.agg #[.slice ai l.length ci, .slice at' l.length ct], .int .i64 (at3 y0 y1 y2 L)] W fun e w' => e = .returned (.tuple #[.int .i64 (at3 q0 q1 q2 L), .string (bs (at3 Q0 Q1 Q2 L))]) ∧ Below W.heap.size W w') := fun L W hL hb => by
    match L, hL with
    | 0, _ => exact HQ0 W hb
    | 1, _ => exact HQ1 W hb
    | 2, _ => exact HQ2 W hb
  have hPm : ∀ L : Nat, L < 3 → (at3 p0 p1 p2 L, at3 P0 P1 P2 L) ∈ ([(q2, Q2), (q1, Q1), (q0, Q0), (p2, P2), (p1, P1), (p0, P0)] : List (Int × List UInt8)) := fun L hL => by
    match L, hL with
    | 0, _ => exact .tail _ (.tail _ (.tail _ (.tail _ (.tail _ (.head _)))))
    | 1, _ => exact .tail _ (.tail _ (.tail _ (.tail _ (.head _))))
    | 2, _ => exact .tail _ (.tail _ (.tail _ (.head _)))
  have hQm : ∀ L : Nat, L < 3 → (at3 q0 q1 q2 L, at3 Q0 Q1 Q2 L) ∈ ([(q2, Q2), (q1, Q1), (q0, Q0), (p2, P2), (p1, P1), (p0, P0)] : List (Int × List UInt8)) := fun L hL => by
    match L, hL with
    | 0, _ => exact .tail _ (.tail _ (.head _))
    | 1, _ => exact .tail _ (.head _)
    | 2, _ => exact .head _
  have hne : PB ≠ QB := by have := hPB.out; have := hQB.out; omega
  have hP2 : w2.heap.size < PB := by have := hPB.out; omega
  have hQ2 : w2.heap.size < QB := by have := hQB.out; omega
  obtain ⟨MV, hMV⟩ : ∃ MV : Array Value, Hid (MV = #[.slice ai l.length ci, .slice at' l.length ct]) := ⟨_, Lib.hid rfl⟩
  have hR0 : Ra W0.heap.size W0 A [(q2, Q2), (q1, Q1), (q0, Q0), (p2, P2), (p1, P1), (p0, P0)] w2 MV PB QB (row3 p0 p1 p2 0) (row3 q0 q1 q2 0) W5 := ⟨t6, b5, by rw [hMV.out]; exact hm5, hp5, hq5⟩
  have HR0 := Lib.hid hR0
  have HXY : Hid (∀ (rp rq : Array Value) (W : World), Ra W0.heap.size W0 A [(q2, Q2), (q1, Q1), (q0, Q0), (p2, P2), (p1, P1), (p0, P0)] w2 MV PB QB rp rq W → ∀ L < 3, W.cell? ⟨w.heap.size, L, none⟩ = some (.int .i64 (at3 x0 x1 x2 L)) ∧ W.cell? ⟨w.heap.size + 1, L, none⟩ = some (.int .i64 (at3 y0 y1 y2 L)) ∧ W.cell? ⟨w2.heap.size, 0, none⟩ = some (.slice ai l.length ci) ∧ W.cell? ⟨w2.heap.size, 1, none⟩ = some (.slice at' l.length ct)) := fun rp rq W h L hL => by
    have hm := h.made
    rw [hMV.out] at hm
    exact ⟨ints3_get ((h.ta.bel.block _ HX.out.lt).trans HX.out) hL, ints3_get ((h.ta.bel.block _ HY.out.lt).trans HY.out) hL, hm.cell 0, hm.cell 1⟩
  have HA := Lib.hid awake21_any
  have HGood : Hid (∀ (L : Nat) (rp rq : Array Value) (W : World), L < 3 → Ra W0.heap.size W0 A [(q2, Q2), (q1, Q1), (q0, Q0), (p2, P2), (p1, P1), (p0, P0)] w2 MV PB QB rp rq W → (at3 p0 p1 p2 L = -1 ↔ at3 P0 P1 P2 L = []) ∧ (at3 q0 q1 q2 L = -1 ↔ at3 Q0 Q1 Q2 L = []) ∧ (∀ W', Below W.heap.size W W' → Calls Try.prog 16 #[.pointer (some ⟨A, 0, none⟩), .int .i64 (at3 p0 p1 p2 L)] W' fun e w' => e = .returned (.int .i64 ((at3 P0 P1 P2 L).length : Int)) ∧ W' = w') ∧ (∀ W', Below W.heap.size W W' → Calls Try.prog 16 #[.pointer (some ⟨A, 0, none⟩), .int .i64 (at3 q0 q1 q2 L)] W' fun e w' => e = .returned (.int .i64 ((at3 Q0 Q1 Q2 L).length : Int)) ∧ W' = w')) := fun L rp rq W hL h =>
    ⟨h.ta.none (hPm L hL), h.ta.none (hQm L hL), fun W' hb => taSize (h.ta.below hb) (hPm L hL), fun W' hb => taSize (h.ta.below hb) (hQm L hL)⟩
  clear hW5 b5 hm5 hp5 hq5 t5 t6 hln' hPk hR0 hPm hQm hp0 hp1 hp2 hq0 hq1 hq2 HP0 HP1 HP2 HQ0 HQ1 HQ2 t1 t2 hI hT hln HMk HN HF
  have hN2 := Lib.hid (hBs)
  clear hBs
  go_wp2_with fail
  go_loopw [11] (fun i wr => ∃ L : Nat, L ≤ 3 ∧ i = .int .i64 (L : Int) ∧ (∀ j < L, Sm (at3 P0 P1 P2 j) ∧ Sm (at3 Q0 Q1 Q2 j)) ∧ Ra W0.heap.size W0 A [(q2, Q2), (q1, Q1), (q0, Q0), (p2, P2), (p1, P1), (p0, P0)] w2 MV PB QB (row3 p0 p1 p2 L) (row3 q0 q1 q2 L) wr) (fun i _ => 3 - (intOf i).toNat)
  case atStart => exact ⟨0, by omega, rfl, fun j hj => by omega, HR0.out⟩
  case round =>
    obtain ⟨L, hL, rfl, hsm, hra⟩ := hrel
    by_cases hlt : L < 3
    · have qlt : decide ((L : Int) < 3) = true := decide_eq_true (by omega)
      have HXL : Hid (∀ (rp rq : Array Value) (W : World), Ra W0.heap.size W0 A [(q2, Q2), (q1, Q1), (q0, Q0), (p2, P2), (p1, P1), (p0, P0)] w2 MV PB QB rp rq W → W.cell? ⟨w.heap.size, L, none⟩ = some (.int .i64 (at3 x0 x1 x2 L)) ∧ W.cell? ⟨w.heap.size + 1, L, none⟩ = some (.int .i64 (at3 y0 y1 y2 L)) ∧ W.cell? ⟨w2.heap.size, 0, none⟩ = some (.slice ai l.length ci) ∧ W.cell? ⟨w2.heap.size, 1, none⟩ = some (.slice at' l.length ct)) := fun rp rq W h => HXY.out rp rq W h L hlt
      have HSP : Hid (∀ W1, Below wr.heap.size wr W1 → W1.cell? ⟨PB, L, none⟩ = some (.int .i64 0) ∧ W1.frozen? ⟨PB, L, none⟩ = false ∧ Ra W0.heap.size W0 A [(q2, Q2), (q1, Q1), (q0, Q0), (p2, P2), (p1, P1), (p0, P0)] w2 MV PB QB (row3 p0 p1 p2 (L + 1)) (row3 q0 q1 q2 L) (W1.setCell ⟨PB, L, none⟩ (.int .i64 (at3 p0 p1 p2 L)))) := fun W1 hb => by
        have h := hra.below hb
        refine ⟨by rw [h.p.cell]; exact row3_get _ _ _ hlt, h.p.frozen _, ?_⟩
        have h2 := h.setP (L := L) (v := .int .i64 (at3 p0 p1 p2 L)) hne (by have := hN2.out; omega) hP2
        rwa [row3_set _ _ _ hlt] at h2
      have HSQ : Hid (∀ W1, Ra W0.heap.size W0 A [(q2, Q2), (q1, Q1), (q0, Q0), (p2, P2), (p1, P1), (p0, P0)] w2 MV PB QB (row3 p0 p1 p2 (L + 1)) (row3 q0 q1 q2 L) W1 → W1.cell? ⟨QB, L, none⟩ = some (.int .i64 0) ∧ W1.frozen? ⟨QB, L, none⟩ = false ∧ Ra W0.heap.size W0 A [(q2, Q2), (q1, Q1), (q0, Q0), (p2, P2), (p1, P1), (p0, P0)] w2 MV PB QB (row3 p0 p1 p2 (L + 1)) (row3 q0 q1 q2 (L + 1)) (W1.setCell ⟨QB, L, none⟩ (.int .i64 (at3 q0 q1 q2 L)))) := fun W1 h => by
        refine ⟨by rw [h.q.cell]; exact row3_get _ _ _ hlt, h.q.frozen _, ?_⟩
        have h2 := h.setQ (L := L) (v := .int .i64 (at3 q0 q1 q2 L)) hne (by have := hN2.out; omega) hQ2
        rwa [row3_set _ _ _ hlt] at h2
      have HPL : Hid (∀ W, Below w2.heap.size w2 W → Calls Try.prog 9 #[.agg #[.slice ai l.length ci, .slice at' l.length ct], .int .i64 (at3 x0 x1 x2 L)] W fun e w' => e = .returned (.tuple #[.int .i64 (at3 p0 p1 p2 L), .string (bs (at3 P0 P1 P2 L))]) ∧ Below W.heap.size W w') := fun W hb => HPk.out L W hlt hb
      have HQL : Hid (∀ W, Below w2.heap.size w2 W → Calls Try.prog 9 #[.agg #[.slice ai l.length ci, .slice at' l.length ct], .int .i64 (at3 y0 y1 y2 L)] W fun e w' => e = .returned (.tuple #[.int .i64 (at3 q0 q1 q2 L), .string (bs (at3 Q0 Q1 Q2 L))]) ∧ Below W.heap.size W w') := fun W hb => HQk.out L W hlt hb
      have HGL : Hid (∀ (W : World), Ra W0.heap.size W0 A [(q2, Q2), (q1, Q1), (q0, Q0), (p2, P2), (p1, P1), (p0, P0)] w2 MV PB QB (row3 p0 p1 p2 (L + 1)) (row3 q0 q1 q2 (L + 1)) W → W.cell? ⟨PB, L, none⟩ = some (.int .i64 (at3 p0 p1 p2 L)) ∧ W.cell? ⟨QB, L, none⟩ = some (.int .i64 (at3 q0 q1 q2 L)) ∧ (at3 p0 p1 p2 L = -1 ↔ at3 P0 P1 P2 L = []) ∧ (at3 q0 q1 q2 L = -1 ↔ at3 Q0 Q1 Q2 L = []) ∧ Hid (∀ W', Below W.heap.size W W' → Calls Try.prog 16 #[.pointer (some ⟨A, 0, none⟩), .int .i64 (at3 p0 p1 p2 L)] W' fun e w' => e = .returned (.int .i64 ((at3 P0 P1 P2 L).length : Int)) ∧ W' = w') ∧ Hid (∀ W', Below W.heap.size W W' → Calls Try.prog 16 #[.pointer (some ⟨A, 0, none⟩), .int .i64 (at3 q0 q1 q2 L)] W' fun e w' => e = .returned (.int .i64 ((at3 Q0 Q1 Q2 L).length : Int)) ∧ W' = w')) := fun W h => by
        obtain ⟨g1, g2, g3, g4⟩ := HGood.out L _ _ W hlt h
        exact ⟨by rw [h.p.cell]; exact row3_at _ _ _ hlt, by rw [h.q.cell]; exact row3_at _ _ _ hlt, g1, g2, g3, g4⟩
      have HNext : Hid (Sm (at3 P0 P1 P2 L) → Sm (at3 Q0 Q1 Q2 L) → ∀ j < L + 1, Sm (at3 P0 P1 P2 j) ∧ Sm (at3 Q0 Q1 Q2 j)) := fun s1 s2 j hj => by
        by_cases h : j < L
        · exact hsm j h
        · have : j = L := by omega
          subst this
          exact ⟨s1, s2⟩
      have HRa := Lib.hid hra
      have bd : Below wr.heap.size wr wr.drew := (Below.refl _ _).drew
      have hbm : Below w2.heap.size w2 wr.drew := hra.bel.trans (bd.mono hra.bel.size)
      obtain ⟨z0, _, z1, z2⟩ := HXL.out _ _ _ (hra.below bd)
      have HC9 : Hid (∀ W, Below wr.heap.size wr W → W.cell? ⟨w.heap.size, L, none⟩ = some (.int .i64 (at3 x0 x1 x2 L)) ∧ W.cell? ⟨w2.heap.size, 0, none⟩ = some (.slice ai l.length ci) ∧ W.cell? ⟨w2.heap.size, 1, none⟩ = some (.slice at' l.length ct)) := fun W hb => by
        obtain ⟨a, _, b, c⟩ := HXL.out _ _ _ (HRa.out.below hb)
        exact ⟨a, b, c⟩
      generalize at3 x0 x1 x2 L = xL at *
      generalize at3 y0 y1 y2 L = yL at *
      generalize at3 p0 p1 p2 L = pL at *
      generalize at3 q0 q1 q2 L = qL at *
      generalize at3 P0 P1 P2 L = PL at *
      generalize at3 Q0 Q1 Q2 L = QL at *
      clear hra hsm HXY HPk HQk HGood hL
      have hlo : (0 : Int) ≤ (L : Int) := by omega
      have hhi : (L : Int) < 3 := by omega
      go_upto_region 9 with fail
      go_region_held3 (fun W => W.cell? ⟨w.heap.size, L, none⟩ = some (.int .i64 xL) ∧ W.cell? ⟨w2.heap.size, 0, none⟩ = some (.slice ai l.length ci) ∧ W.cell? ⟨w2.heap.size, 1, none⟩ = some (.slice at' l.length ct))
        (first | with_reducible exact HC9.out _ bd | with_reducible exact HC9.out _ b3 | with_reducible exact hsK | go_keep)
        (first
          | (go_at_call 9; (with_reducible refine (HPL.out _ hbm).mono ?_); rintro e w3 ⟨rfl, b3⟩; have b3 := bd.trans (b3.mono bd.size); obtain ⟨c0, g0, hs3⟩ := HSP.out _ b3; obtain ⟨s0, _, s1, s2⟩ := HXL.out _ _ _ hs3; have hsK := And.intro s0 (And.intro s1 s2); have HS3 := Lib.hid hs3; clear hs3))
      all_goals
        have hra4 := HS3.out
        clear HS3 s0 s1 s2 hsK c0 g0 b3 HC9 HSP z0 z1 z2 hbm bd HPL
        generalize w3.setCell ⟨PB, L, none⟩ (.int .i64 pL) = W4 at *
        have bd4 : Below W4.heap.size W4 W4.drew := (Below.refl _ _).drew
        have hbm4 : Below w2.heap.size w2 W4.drew := hra4.bel.trans (bd4.mono hra4.bel.size)
        obtain ⟨_, z0, z1, z2⟩ := HXL.out _ _ _ (hra4.below bd4)
        have HRa4 := Lib.hid hra4
        have HC10 : Hid (∀ W, Below W4.heap.size W4 W → W.cell? ⟨w.heap.size + 1, L, none⟩ = some (.int .i64 yL) ∧ W.cell? ⟨w2.heap.size, 0, none⟩ = some (.slice ai l.length ci) ∧ W.cell? ⟨w2.heap.size, 1, none⟩ = some (.slice at' l.length ct)) := fun W hb => by
          obtain ⟨_, a, b, c⟩ := HXL.out _ _ _ (HRa4.out.below hb)
          exact ⟨a, b, c⟩
        clear hra4
        go_upto_region 10 with fail
        go_region_held3 (fun W => W.cell? ⟨w.heap.size + 1, L, none⟩ = some (.int .i64 yL) ∧ W.cell? ⟨w2.heap.size, 0, none⟩ = some (.slice ai l.length ci) ∧ W.cell? ⟨w2.heap.size, 1, none⟩ = some (.slice at' l.length ct))
          (first | with_reducible exact HC10.out _ bd4 | with_reducible exact HC10.out _ b5 | with_reducible exact hsK | go_keep)
          (first
            | (go_at_call 9; (with_reducible refine (HQL.out _ hbm4).mono ?_); rintro e w5 ⟨rfl, b5⟩; have b5 := bd4.trans (b5.mono bd4.size); obtain ⟨c0, g0, hs5⟩ := HSQ.out _ (HRa4.out.below b5); obtain ⟨_, s0, s1, s2⟩ := HXL.out _ _ _ hs5; have hsK := And.intro s0 (And.intro s1 s2); have HS5 := Lib.hid hs5; clear hs5))
      all_goals
        have hra6 := HS5.out
        clear HS5 s0 s1 s2 hsK c0 g0 b5 HC10 HSQ z0 z1 z2 hbm4 bd4 HQL HRa4 HXL
        generalize w5.setCell ⟨QB, L, none⟩ (.int .i64 qL) = W6 at *
        obtain ⟨a0, a1, gp, gq, hzp, hzq⟩ := HGL.out _ hra6
        have HRa6 := Lib.hid hra6
        have b60 : Below W6.heap.size W6 W6 := Below.refl _ _
        go_upto_region 11 with fail
        by_cases hp : PL = []
        · have e1 := gp.2 hp
          have r1 : (pL == -1) = true := by rw [e1]; rfl
          clear gp gq hp e1
          go_wp2_with (go_at_call 6; (with_reducible refine (HA.out _).mono ?_); rintro e w8 ⟨rfl, b8⟩)
          go_ret
          exact ⟨rfl, HB0.out.trans ((HRa6.out.ta.below b8).bel.mono HB0.out.size)⟩
        · have r1 : (pL == -1) = false := by
            have : pL ≠ -1 := fun e => hp (gp.1 e)
            simpa using this
          by_cases hq : QL = []
          · have e1 := gq.2 hq
            have r2 : (qL == -1) = true := by rw [e1]; rfl
            clear gp gq hp hq e1
            go_wp2_with (go_at_call 6; (with_reducible refine (HA.out _).mono ?_); rintro e w8 ⟨rfl, b8⟩)
            go_ret
            exact ⟨rfl, HB0.out.trans ((HRa6.out.ta.below b8).bel.mono HB0.out.size)⟩
          · have r2 : (qL == -1) = false := by
              have : qL ≠ -1 := fun e => hq (gq.1 e)
              simpa using this
            by_cases hpl : 10000 < PL.length
            · have r3 : decide ((PL.length : Int) > 10000) = true := decide_eq_true (by omega)
              clear gp gq hp hq hpl
              go_wp2_with (first
                | (go_at_call 16; (with_reducible refine (hzp.out _ b60).mono ?_); rintro e w7 ⟨rfl, hw⟩; have hw := hw.symm; subst hw)
                | (go_at_call 6; (with_reducible refine (HA.out _).mono ?_); rintro e w8 ⟨rfl, b8⟩))
              go_ret
              exact ⟨rfl, HB0.out.trans ((HRa6.out.ta.below b8).bel.mono HB0.out.size)⟩
            · have r3 : decide ((PL.length : Int) > 10000) = false := decide_eq_false (by omega)
              by_cases hql : 10000 < QL.length
              · have r4 : decide ((QL.length : Int) > 10000) = true := decide_eq_true (by omega)
                clear gp gq hp hq hpl hql
                go_wp2_with (first
                  | (go_at_call 16; (with_reducible refine (hzp.out _ b60).mono ?_); rintro e w7 ⟨rfl, hw⟩; have hw := hw.symm; subst hw)
                  | (go_at_call 16; (with_reducible refine (hzq.out _ b60).mono ?_); rintro e w7 ⟨rfl, hw⟩; have hw := hw.symm; subst hw)
                  | (go_at_call 6; (with_reducible refine (HA.out _).mono ?_); rintro e w8 ⟨rfl, b8⟩))
                go_ret
                exact ⟨rfl, HB0.out.trans ((HRa6.out.ta.below b8).bel.mono HB0.out.size)⟩
              · have r4 : decide ((QL.length : Int) > 10000) = false := decide_eq_false (by omega)
                have HNx := Lib.hid (HNext.out ⟨hp, by omega⟩ ⟨hq, by omega⟩)
                clear gp gq hp hq hpl hql HNext
                go_wp2_with (first
                  | (go_at_call 16; (with_reducible refine (hzp.out _ b60).mono ?_); rintro e w7 ⟨rfl, hw⟩; have hw := hw.symm; subst hw)
                  | (go_at_call 16; (with_reducible refine (hzq.out _ b60).mono ?_); rintro e w7 ⟨rfl, hw⟩; have hw := hw.symm; subst hw))
                go_roundw
                case rel => exact ⟨L + 1, by omega, by go_num, HNx.out, HRa6.out⟩
                case measure => simp [intOf]; omega
    · have hL3 : L = 3 := by omega
      subst hL3
      have hp3 : Holds wr PB 45 #[.int .i64 p0, .int .i64 p1, .int .i64 p2] := hra.p
      have hq3 : Holds wr QB 45 #[.int .i64 q0, .int .i64 q1, .int .i64 q2] := hra.q
      have HCC : Hid (∀ W, Kept wr W → W.cell? ⟨PB, 0, none⟩ = some (.int .i64 p0) ∧ W.cell? ⟨PB, 1, none⟩ = some (.int .i64 p1) ∧ W.cell? ⟨PB, 2, none⟩ = some (.int .i64 p2) ∧ W.cell? ⟨QB, 0, none⟩ = some (.int .i64 q0) ∧ W.cell? ⟨QB, 1, none⟩ = some (.int .i64 q1) ∧ W.cell? ⟨QB, 2, none⟩ = some (.int .i64 q2)) := fun W hk => by
        have a := hk.hold _ _ _ (by decide) (by decide) hp3
        have b := hk.hold _ _ _ (by decide) (by decide) hq3
        exact ⟨a.cell 0, a.cell 1, a.cell 2, b.cell 0, b.cell 1, b.cell 2⟩
      obtain ⟨⟨sP0, sQ0⟩, ⟨sP1, sQ1⟩, ⟨sP2, sQ2⟩⟩ : (Sm P0 ∧ Sm Q0) ∧ (Sm P1 ∧ Sm Q1) ∧ (Sm P2 ∧ Sm Q2) := ⟨hsm 0 (by omega), hsm 1 (by omega), hsm 2 (by omega)⟩
      have gg : Gs W0.heap.size W0 A [(q2, Q2), (q1, Q1), (q0, Q0), (p2, P2), (p1, P1), (p0, P0)] 20 wr [] wr := ⟨hra.ta, Kept.refl _, fun b hb => by simp at hb, List.nodup_nil⟩
      have g0 := gg.drew
      have ga := gg.new.drew
      have gaa := gg.new.new.drew
      have HS1 : Hid (∀ (zs : List Nat) (W : World), Gs W0.heap.size W0 A [(q2, Q2), (q1, Q1), (q0, Q0), (p2, P2), (p1, P1), (p0, P0)] 20 wr zs W → Calls Try.prog 10 #[.pointer (some ⟨A, 0, none⟩), .int .i64 p0, .int .i64 p1, .int .i64 p2] W fun r w' => ∃ k0 k1 k2 k3 k4 k5 : Int, r = .returned (.agg #[.int .i64 k0, .int .i64 k1, .int .i64 k2, .int .i64 k3, .int .i64 k4, .int .i64 k5]) ∧ Gs W0.heap.size W0 A (sixP P0 P1 P2 [k0, k1, k2, k3, k4, k5] ++ [(q2, Q2), (q1, Q1), (q0, Q0), (p2, P2), (p1, P1), (p0, P0)]) 26 wr zs w') := fun zs W h => gs_six h (by omega) (.tail _ (.tail _ (.tail _ (.tail _ (.tail _ (.head _)))))) (.tail _ (.tail _ (.tail _ (.tail _ (.head _))))) (.tail _ (.tail _ (.tail _ (.head _))))
      have HS2 : Hid (∀ (k0 k1 k2 k3 k4 k5 : Int) (zs : List Nat) (W : World), Gs W0.heap.size W0 A (sixP P0 P1 P2 [k0, k1, k2, k3, k4, k5] ++ [(q2, Q2), (q1, Q1), (q0, Q0), (p2, P2), (p1, P1), (p0, P0)]) 26 wr zs W → Calls Try.prog 10 #[.pointer (some ⟨A, 0, none⟩), .int .i64 q0, .int .i64 q1, .int .i64 q2] W fun r w' => ∃ m0 m1 m2 m3 m4 m5 : Int, r = .returned (.agg #[.int .i64 m0, .int .i64 m1, .int .i64 m2, .int .i64 m3, .int .i64 m4, .int .i64 m5]) ∧ Gs W0.heap.size W0 A (sixP Q0 Q1 Q2 [m0, m1, m2, m3, m4, m5] ++ (sixP P0 P1 P2 [k0, k1, k2, k3, k4, k5] ++ [(q2, Q2), (q1, Q1), (q0, Q0), (p2, P2), (p1, P1), (p0, P0)])) 32 wr zs w') := fun k0 k1 k2 k3 k4 k5 zs W h => gs_six h (by omega) (List.mem_append_right _ (.tail _ (.tail _ (.head _)))) (List.mem_append_right _ (.tail _ (.head _))) (List.mem_append_right _ (.head _))
      have HFin : Hid (∀ (k0 k1 k2 k3 k4 k5 m0 m1 m2 m3 m4 m5 : Int) (b c : Nat) (W : World), SixTwo W0.heap.size W0 A (sixP Q0 Q1 Q2 [m0, m1, m2, m3, m4, m5] ++ (sixP P0 P1 P2 [k0, k1, k2, k3, k4, k5] ++ [(q2, Q2), (q1, Q1), (q0, Q0), (p2, P2), (p1, P1), (p0, P0)])) 32 wr #[.int .i64 k0, .int .i64 k1, .int .i64 k2, .int .i64 k3, .int .i64 k4, .int .i64 k5] #[.int .i64 m0, .int .i64 m1, .int .i64 m2, .int .i64 m3, .int .i64 m4, .int .i64 m5] b c W → ∀ (i k : Nat) (x y : Int), ([k0, k1, k2, k3, k4, k5] : List Int)[i]? = some x → ([m0, m1, m2, m3, m4, m5] : List Int)[k]? = some y → i ≤ 5 → k ≤ 5 → x ≠ -1 ∧ (x = y ↔ (p0 = q0 ∧ p1 = q1 ∧ p2 = q2) ∧ i = k)) := fun k0 k1 k2 k3 k4 k5 m0 m1 m2 m3 m4 m5 b c W h i k x y hx hy hi hk =>
        derive_iff h.ta (List.mem_append_right _ (List.mem_append_right _ (.tail _ (.tail _ (.tail _ (.tail _ (.tail _ (.head _)))))))) (List.mem_append_right _ (List.mem_append_right _ (.tail _ (.tail _ (.tail _ (.tail _ (.head _))))))) (List.mem_append_right _ (List.mem_append_right _ (.tail _ (.tail _ (.tail _ (.head _)))))) (List.mem_append_right _ (List.mem_append_right _ (.tail _ (.tail _ (.head _))))) (List.mem_append_right _ (List.mem_append_right _ (.tail _ (.head _)))) (List.mem_append_right _ (List.mem_append_right _ (.head _))) sP0 sP1 sP2 sQ0 sQ1 sQ2 hi hk (List.mem_append_right _ (List.mem_append_left _ (sixP_mem hx))) (List.mem_append_left _ (sixP_mem hy))
      have kal : ∀ (W : World) (o : Obj), Kept wr W → Kept wr (W.alloc o) := fun W o h => h.trans (Kept.ofBelow ((Below.refl _ _).alloc (Nat.le_refl _) o))
      have KAL := Lib.hid kal
      have hs0 := Lib.hid (HCC.out _ g0.kept)
      have hsa := Lib.hid (HCC.out _ ga.kept)
      have hsaa := Lib.hid (HCC.out _ gaa.kept)
      have hcc0 := HCC.out _ g0.kept
      obtain ⟨c0, c1, c2, c3, c4, c5⟩ := hcc0
      clear hra hsm hp3 hq3 hlt hL gg kal sP0 sP1 sP2 sQ0 sQ1 sQ2 HXY HPk HQk HGood
      go_wp2_with fail
      go_upto_region 13 with fail
      go_cut [12, 13] from 75 to 90 (fun v12 v13 wc => KCut W0.heap.size W0 A [(q2, Q2), (q1, Q1), (q0, Q0), (p2, P2), (p1, P1), (p0, P0)] P0 P1 P2 Q0 Q1 Q2 wr v12 v13 wc)
      case first =>
       clear HFin HA HB0 HX HY HR0 hs0 hsa hsaa ga gaa c0 c1 c2 c3 c4 c5 KAL
       refine wp_region_held_drew (S := fun W => W.cell? ⟨PB, 0, none⟩ = some (.int .i64 p0) ∧ W.cell? ⟨PB, 1, none⟩ = some (.int .i64 p1) ∧ W.cell? ⟨PB, 2, none⟩ = some (.int .i64 p2) ∧ W.cell? ⟨QB, 0, none⟩ = some (.int .i64 q0) ∧ W.cell? ⟨QB, 1, none⟩ = some (.int .i64 q1) ∧ W.cell? ⟨QB, 2, none⟩ = some (.int .i64 q2)) (by kernel_rfl) ?_ (fun hHeld => ?_)
       · exact HCC.out _ g0.kept
       generalize World.drew wr = V0 at *
       refine wpAnyH_take (i := 0) (oi := { dst := some 75, op := Op.move (Operand.tmp 7), type := 26, pos := "law.go:58", after := #[], guard := none }) (v := ?_) rfl (by kernel_rfl) (by kernel_rfl) (by kernel_rfl) (fun _ _ _ h => h) (Or.inl ⟨by rfl, ?_⟩) (by assumption) ?_
       rotate_left 1
       · (intro w hSw; (try dsimp only at hSw); go_simp; (try with_reducible rfl))
       try simp only [Act.put, List.setIfInBounds_toArray, List.set_cons_zero, List.set_cons_succ]
       refine wpAnyH_take (i := 1) (oi := { dst := some 76, op := Op.indexAddr 45 (Operand.tmp 9) (Operand.const (Value.int IntKind.i64 0)), type := 0, pos := "law.go:58", after := #[], guard := none }) (v := ?_) rfl (by kernel_rfl) (by kernel_rfl) (by kernel_rfl) (fun _ _ _ h => h) (Or.inl ⟨by rfl, ?_⟩) (by assumption) ?_
       rotate_left 1
       · (intro w hSw; (try dsimp only at hSw); go_simp; (try with_reducible rfl))
       try simp only [Act.put, List.setIfInBounds_toArray, List.set_cons_zero, List.set_cons_succ]
       refine wpAnyH_take (i := 2) (oi := { dst := some 77, op := Op.load 33 (Operand.tmp 76), type := 33, pos := "law.go:58", after := #[{ on := 1, ground := Ground.data }], guard := none }) (v := ?_) rfl (by kernel_rfl) (by kernel_rfl) (by kernel_rfl) (fun _ _ _ h => h) (Or.inl ⟨by rfl, ?_⟩) (by assumption) ?_
       rotate_left 1
       · (intro w hSw; (try dsimp only at hSw); go_simp; (try with_reducible rfl))
       try simp only [Act.put, List.setIfInBounds_toArray, List.set_cons_zero, List.set_cons_succ]
       refine wpAnyH_take (i := 3) (oi := { dst := some 78, op := Op.indexAddr 45 (Operand.tmp 9) (Operand.const (Value.int IntKind.i64 1)), type := 0, pos := "law.go:58", after := #[], guard := none }) (v := ?_) rfl (by kernel_rfl) (by kernel_rfl) (by kernel_rfl) (fun _ _ _ h => h) (Or.inl ⟨by rfl, ?_⟩) (by assumption) ?_
       rotate_left 1
       · (intro w hSw; (try dsimp only at hSw); go_simp; (try with_reducible rfl))
       try simp only [Act.put, List.setIfInBounds_toArray, List.set_cons_zero, List.set_cons_succ]
       refine wpAnyH_take (i := 4) (oi := { dst := some 79, op := Op.load 33 (Operand.tmp 78), type := 33, pos := "law.go:58", after := #[{ on := 3, ground := Ground.data }], guard := none }) (v := ?_) rfl (by kernel_rfl) (by kernel_rfl) (by kernel_rfl) (fun _ _ _ h => h) (Or.inl ⟨by rfl, ?_⟩) (by assumption) ?_
       rotate_left 1
       · (intro w hSw; (try dsimp only at hSw); go_simp; (try with_reducible rfl))
       try simp only [Act.put, List.setIfInBounds_toArray, List.set_cons_zero, List.set_cons_succ]
       refine wpAnyH_take (i := 5) (oi := { dst := some 80, op := Op.indexAddr 45 (Operand.tmp 9) (Operand.const (Value.int IntKind.i64 2)), type := 0, pos := "law.go:58", after := #[], guard := none }) (v := ?_) rfl (by kernel_rfl) (by kernel_rfl) (by kernel_rfl) (fun _ _ _ h => h) (Or.inl ⟨by rfl, ?_⟩) (by assumption) ?_
       rotate_left 1
       · (intro w hSw; (try dsimp only at hSw); go_simp; (try with_reducible rfl))
       try simp only [Act.put, List.setIfInBounds_toArray, List.set_cons_zero, List.set_cons_succ]
       refine wpAnyH_take (i := 6) (oi := { dst := some 81, op := Op.load 33 (Operand.tmp 80), type := 33, pos := "law.go:58", after := #[{ on := 5, ground := Ground.data }], guard := none }) (v := ?_) rfl (by kernel_rfl) (by kernel_rfl) (by kernel_rfl) (fun _ _ _ h => h) (Or.inl ⟨by rfl, ?_⟩) (by assumption) ?_
       rotate_left 1
       · (intro w hSw; (try dsimp only at hSw); go_simp; (try with_reducible rfl))
       try simp only [Act.put, List.setIfInBounds_toArray, List.set_cons_zero, List.set_cons_succ]
       refine wpAnyH_take (i := 8) (oi := { dst := some 83, op := Op.move (Operand.tmp 7), type := 26, pos := "law.go:58", after := #[], guard := none }) (v := ?_) rfl (by kernel_rfl) (by kernel_rfl) (by kernel_rfl) (fun _ _ _ h => h) (Or.inl ⟨by rfl, ?_⟩) (by assumption) ?_
       rotate_left 1
       · (intro w hSw; (try dsimp only at hSw); go_simp; (try with_reducible rfl))
       try simp only [Act.put, List.setIfInBounds_toArray, List.set_cons_zero, List.set_cons_succ]
       refine wpAnyH_take (i := 9) (oi := { dst := some 84, op := Op.indexAddr 45 (Operand.tmp 10) (Operand.const (Value.int IntKind.i64 0)), type := 0, pos := "law.go:58", after := #[], guard := none }) (v := ?_) rfl (by kernel_rfl) (by kernel_rfl) (by kernel_rfl) (fun _ _ _ h => h) (Or.inl ⟨by rfl, ?_⟩) (by assumption) ?_
       rotate_left 1
       · (intro w hSw; (try dsimp only at hSw); go_simp; (try with_reducible rfl))
       try simp only [Act.put, List.setIfInBounds_toArray, List.set_cons_zero, List.set_cons_succ]
       refine wpAnyH_take (i := 10) (oi := { dst := some 85, op := Op.load 33 (Operand.tmp 84), type := 33, pos := "law.go:58", after := #[{ on := 9, ground := Ground.data }], guard := none }) (v := ?_) rfl (by kernel_rfl) (by kernel_rfl) (by kernel_rfl) (fun _ _ _ h => h) (Or.inl ⟨by rfl, ?_⟩) (by assumption) ?_
       rotate_left 1
       · (intro w hSw; (try dsimp only at hSw); go_simp; (try with_reducible rfl))
       try simp only [Act.put, List.setIfInBounds_toArray, List.set_cons_zero, List.set_cons_succ]
       refine wpAnyH_take (i := 11) (oi := { dst := some 86, op := Op.indexAddr 45 (Operand.tmp 10) (Operand.const (Value.int IntKind.i64 1)), type := 0, pos := "law.go:58", after := #[], guard := none }) (v := ?_) rfl (by kernel_rfl) (by kernel_rfl) (by kernel_rfl) (fun _ _ _ h => h) (Or.inl ⟨by rfl, ?_⟩) (by assumption) ?_
       rotate_left 1
       · (intro w hSw; (try dsimp only at hSw); go_simp; (try with_reducible rfl))
       try simp only [Act.put, List.setIfInBounds_toArray, List.set_cons_zero, List.set_cons_succ]
       refine wpAnyH_take (i := 12) (oi := { dst := some 87, op := Op.load 33 (Operand.tmp 86), type := 33, pos := "law.go:58", after := #[{ on := 11, ground := Ground.data }], guard := none }) (v := ?_) rfl (by kernel_rfl) (by kernel_rfl) (by kernel_rfl) (fun _ _ _ h => h) (Or.inl ⟨by rfl, ?_⟩) (by assumption) ?_
       rotate_left 1
       · (intro w hSw; (try dsimp only at hSw); go_simp; (try with_reducible rfl))
       try simp only [Act.put, List.setIfInBounds_toArray, List.set_cons_zero, List.set_cons_succ]
       refine wpAnyH_take (i := 13) (oi := { dst := some 88, op := Op.indexAddr 45 (Operand.tmp 10) (Operand.const (Value.int IntKind.i64 2)), type := 0, pos := "law.go:58", after := #[], guard := none }) (v := ?_) rfl (by kernel_rfl) (by kernel_rfl) (by kernel_rfl) (fun _ _ _ h => h) (Or.inl ⟨by rfl, ?_⟩) (by assumption) ?_
       rotate_left 1
       · (intro w hSw; (try dsimp only at hSw); go_simp; (try with_reducible rfl))
       try simp only [Act.put, List.setIfInBounds_toArray, List.set_cons_zero, List.set_cons_succ]
       refine wpAnyH_take (i := 14) (oi := { dst := some 89, op := Op.load 33 (Operand.tmp 88), type := 33, pos := "law.go:58", after := #[{ on := 13, ground := Ground.data }], guard := none }) (v := ?_) rfl (by kernel_rfl) (by kernel_rfl) (by kernel_rfl) (fun _ _ _ h => h) (Or.inl ⟨by rfl, ?_⟩) (by assumption) ?_
       rotate_left 1
       · (intro w hSw; (try dsimp only at hSw); go_simp; (try with_reducible rfl))
       try simp only [Act.put, List.setIfInBounds_toArray, List.set_cons_zero, List.set_cons_succ]
       refine wpAnyH_ready (rs := [7, 16, 17]) (by kernel_rfl) (by simp) ?_
       refine AllReadyH.cons (o := { dst := some 82, op := Op.call { callee := Callee.value (Operand.func 10), args := #[Operand.tmp 75, Operand.tmp 77, Operand.tmp 79, Operand.tmp 81], argTypes := #[26, 33, 33, 33] }, type := 36, pos := "law.go:58", after := #[{ on := 0, ground := Ground.data }, { on := 2, ground := Ground.data }, { on := 4, ground := Ground.data }, { on := 6, ground := Ground.data }], guard := none }) rfl (fun K hK => ?_) ?_
       · go_simp
         go_at_call 10
         with_reducible refine (HS1.out _ _ g0).mono ?_
         rintro e V1 ⟨k0, k1, k2, k3, k4, k5, rfl, g1⟩
         clear g0
         go_wp2_with fail
         refine hK.out _ _ ?_ (fun hHeld => ?_)
         · exact HCC.out _ g1.kept
         clear hK K
         try simp only [Act.put, List.setIfInBounds_toArray, List.set_cons_zero, List.set_cons_succ]
         refine wpAnyH_ready (rs := [15, 16, 17]) (by kernel_rfl) (by simp) ?_
         refine AllReadyH.cons (o := { dst := some 90, op := Op.call { callee := Callee.value (Operand.func 10), args := #[Operand.tmp 83, Operand.tmp 85, Operand.tmp 87, Operand.tmp 89], argTypes := #[26, 33, 33, 33] }, type := 36, pos := "law.go:58", after := #[{ on := 8, ground := Ground.data }, { on := 10, ground := Ground.data }, { on := 12, ground := Ground.data }, { on := 14, ground := Ground.data }, { on := 7, ground := Ground.chain }], guard := none }) rfl (fun K hK => ?_) ?_
         · go_simp
           go_at_call 10
           with_reducible refine (HS2.out _ _ _ _ _ _ _ _ g1).mono ?_
           rintro e V2 ⟨m0, m1, m2, m3, m4, m5, rfl, g2⟩
           clear g1
           go_wp2_with fail
           refine hK.out _ _ ?_ (fun hHeld => ?_)
           · exact HCC.out _ g2.kept
           clear hK K
           try simp only [Act.put, List.setIfInBounds_toArray, List.set_cons_zero, List.set_cons_succ]
           refine wpAnyH_ready (rs := [16, 17]) (by kernel_rfl) (by simp) ?_
           refine AllReadyH.cons (o := { dst := some 12, op := Op.alloc 36, type := 0, pos := "law.go:58", after := #[], guard := none }) rfl (fun K hK => ?_) ?_
           · go_simp
             have g3 := g2.new
             clear g2
             refine hK.out _ _ ?_ (fun hHeld => ?_)
             · exact HCC.out _ g3.kept
             clear hK K
             try simp only [Act.put, List.setIfInBounds_toArray, List.set_cons_zero, List.set_cons_succ]
             generalize V2.alloc (.cells #[.int .i64 0, .int .i64 0, .int .i64 0, .int .i64 0, .int .i64 0, .int .i64 0] 36) = V3 at *
             generalize V2.heap.size = b at *
             refine wpAnyH_ready (rs := [17]) (by kernel_rfl) (by simp) ?_
             refine AllReadyH.cons (o := { dst := some 13, op := Op.alloc 36, type := 0, pos := "law.go:58", after := #[], guard := none }) rfl (fun K hK => ?_) ?_
             · go_simp
               have g4 := g3.new
               clear g3
               refine hK.out _ _ ?_ (fun hHeld => ?_)
               · exact HCC.out _ g4.kept
               clear hK K
               try simp only [Act.put, List.setIfInBounds_toArray, List.set_cons_zero, List.set_cons_succ]
               generalize V3.alloc (.cells #[.int .i64 0, .int .i64 0, .int .i64 0, .int .i64 0, .int .i64 0, .int .i64 0] 36) = V4 at *
               generalize V3.heap.size = c at *
               refine wpAnyH_ready (rs := [18]) (by kernel_rfl) (by simp) ?_
               refine AllReadyH.cons (o := { dst := none, op := Op.store 36 (Operand.tmp 12) (Operand.tmp 82), type := 0, pos := "law.go:58", after := #[{ on := 16, ground := Ground.data }, { on := 7, ground := Ground.data }, { on := 15, ground := Ground.chain }, { on := 0, ground := Ground.phase }, { on := 1, ground := Ground.phase }, { on := 2, ground := Ground.phase }, { on := 3, ground := Ground.phase }, { on := 4, ground := Ground.phase }, { on := 5, ground := Ground.phase }, { on := 6, ground := Ground.phase }, { on := 7, ground := Ground.phase }, { on := 8, ground := Ground.textOnly Departure.lateStores }, { on := 9, ground := Ground.textOnly Departure.lateStores }, { on := 10, ground := Ground.textOnly Departure.lateStores }, { on := 11, ground := Ground.textOnly Departure.lateStores }, { on := 12, ground := Ground.textOnly Departure.lateStores }, { on := 13, ground := Ground.textOnly Departure.lateStores }, { on := 14, ground := Ground.textOnly Departure.lateStores }, { on := 15, ground := Ground.textOnly Departure.lateStoresUnsure }, { on := 16, ground := Ground.phase }, { on := 17, ground := Ground.phase }], guard := none }) rfl (fun K hK => ?_) ?_
               · have hx := gs_row g4 (List.mem_cons_of_mem _ List.mem_cons_self) List.mem_cons_self g4.mem2 #[.int .i64 k0, .int .i64 k1, .int .i64 k2, .int .i64 k3, .int .i64 k4, .int .i64 k5]
                 have hc := hx.2
                 have hk := hx.1
                 clear hx
                 refine step_store_rowK rfl 36 _ _ rfl b #[.int .i64 k0, .int .i64 k1, .int .i64 k2, .int .i64 k3, .int .i64 k4, .int .i64 k5] rfl rfl 36 #[.int .i64 0, .int .i64 0, .int .i64 0, .int .i64 0, .int .i64 0, .int .i64 0] (g4.row b (List.mem_cons_of_mem _ List.mem_cons_self)).1 (by exact sizeSixK) (by rfl) (by simp [Value.oneCell']) ?_
                 refine hK.out _ _ ?_ (fun hHeld => ?_)
                 · exact HCC.out _ hk
                 clear hK K
                 try simp only [Act.put, List.setIfInBounds_toArray, List.set_cons_zero, List.set_cons_succ]
                 clear hk
                 refine wpAnyH_ready (rs := [19]) (by kernel_rfl) (by simp) ?_
                 refine AllReadyH.cons (o := { dst := none, op := Op.store 36 (Operand.tmp 13) (Operand.tmp 90), type := 0, pos := "law.go:58", after := #[{ on := 17, ground := Ground.data }, { on := 15, ground := Ground.data }, { on := 18, ground := Ground.chain }, { on := 0, ground := Ground.phase }, { on := 1, ground := Ground.phase }, { on := 2, ground := Ground.phase }, { on := 3, ground := Ground.phase }, { on := 4, ground := Ground.phase }, { on := 5, ground := Ground.phase }, { on := 6, ground := Ground.phase }, { on := 7, ground := Ground.phase }, { on := 8, ground := Ground.phase }, { on := 9, ground := Ground.phase }, { on := 10, ground := Ground.phase }, { on := 11, ground := Ground.phase }, { on := 12, ground := Ground.phase }, { on := 13, ground := Ground.phase }, { on := 14, ground := Ground.phase }, { on := 15, ground := Ground.phase }, { on := 16, ground := Ground.phase }, { on := 17, ground := Ground.phase }, { on := 18, ground := Ground.phase }], guard := none }) rfl (fun K hK => ?_) ?_
                 · have h2 := gs_rows g4 (List.mem_cons_of_mem _ List.mem_cons_self) List.mem_cons_self g4.mem2 #[.int .i64 k0, .int .i64 k1, .int .i64 k2, .int .i64 k3, .int .i64 k4, .int .i64 k5] #[.int .i64 m0, .int .i64 m1, .int .i64 m2, .int .i64 m3, .int .i64 m4, .int .i64 m5]
                   refine step_store_rowK rfl 36 _ _ rfl c #[.int .i64 m0, .int .i64 m1, .int .i64 m2, .int .i64 m3, .int .i64 m4, .int .i64 m5] rfl rfl 36 #[.int .i64 0, .int .i64 0, .int .i64 0, .int .i64 0, .int .i64 0, .int .i64 0] hc (by exact sizeSixK) (by rfl) (by simp [Value.oneCell']) ?_
                   refine hK.out _ _ ?_ (fun hHeld => ?_)
                   · exact HCC.out _ h2.kept
                   clear hK K
                   try simp only [Act.put, List.setIfInBounds_toArray, List.set_cons_zero, List.set_cons_succ]
                   refine wpAnyH_done (by kernel_rfl) ?_ _
                   go_wp2_with fail
                   go_meet
                   case rel => exact KCut.mk h2
                 exact AllReadyH.nil
               exact AllReadyH.nil
             exact AllReadyH.nil
           refine AllReadyH.cons (o := { dst := some 13, op := Op.alloc 36, type := 0, pos := "law.go:58", after := #[], guard := none }) rfl (fun K hK => ?_) ?_
           · go_simp
             have g7 := g2.new
             clear g2
             refine hK.out _ _ ?_ (fun hHeld => ?_)
             · exact HCC.out _ g7.kept
             clear hK K
             try simp only [Act.put, List.setIfInBounds_toArray, List.set_cons_zero, List.set_cons_succ]
             generalize V2.alloc (.cells #[.int .i64 0, .int .i64 0, .int .i64 0, .int .i64 0, .int .i64 0, .int .i64 0] 36) = V7 at *
             generalize V2.heap.size = c at *
             refine wpAnyH_ready (rs := [16]) (by kernel_rfl) (by simp) ?_
             refine AllReadyH.cons (o := { dst := some 12, op := Op.alloc 36, type := 0, pos := "law.go:58", after := #[], guard := none }) rfl (fun K hK => ?_) ?_
             · go_simp
               have g8 := g7.new
               clear g7
               refine hK.out _ _ ?_ (fun hHeld => ?_)
               · exact HCC.out _ g8.kept
               clear hK K
               try simp only [Act.put, List.setIfInBounds_toArray, List.set_cons_zero, List.set_cons_succ]
               generalize V7.alloc (.cells #[.int .i64 0, .int .i64 0, .int .i64 0, .int .i64 0, .int .i64 0, .int .i64 0] 36) = V8 at *
               generalize V7.heap.size = b at *
               refine wpAnyH_ready (rs := [18]) (by kernel_rfl) (by simp) ?_
               refine AllReadyH.cons (o := { dst := none, op := Op.store 36 (Operand.tmp 12) (Operand.tmp 82), type := 0, pos := "law.go:58", after := #[{ on := 16, ground := Ground.data }, { on := 7, ground := Ground.data }, { on := 15, ground := Ground.chain }, { on := 0, ground := Ground.phase }, { on := 1, ground := Ground.phase }, { on := 2, ground := Ground.phase }, { on := 3, ground := Ground.phase }, { on := 4, ground := Ground.phase }, { on := 5, ground := Ground.phase }, { on := 6, ground := Ground.phase }, { on := 7, ground := Ground.phase }, { on := 8, ground := Ground.textOnly Departure.lateStores }, { on := 9, ground := Ground.textOnly Departure.lateStores }, { on := 10, ground := Ground.textOnly Departure.lateStores }, { on := 11, ground := Ground.textOnly Departure.lateStores }, { on := 12, ground := Ground.textOnly Departure.lateStores }, { on := 13, ground := Ground.textOnly Departure.lateStores }, { on := 14, ground := Ground.textOnly Departure.lateStores }, { on := 15, ground := Ground.textOnly Departure.lateStoresUnsure }, { on := 16, ground := Ground.phase }, { on := 17, ground := Ground.phase }], guard := none }) rfl (fun K hK => ?_) ?_
               · have hx := gs_row g8 List.mem_cons_self (List.mem_cons_of_mem _ List.mem_cons_self) (Ne.symm g8.mem2) #[.int .i64 k0, .int .i64 k1, .int .i64 k2, .int .i64 k3, .int .i64 k4, .int .i64 k5]
                 have hc := hx.2
                 have hk := hx.1
                 clear hx
                 refine step_store_rowK rfl 36 _ _ rfl b #[.int .i64 k0, .int .i64 k1, .int .i64 k2, .int .i64 k3, .int .i64 k4, .int .i64 k5] rfl rfl 36 #[.int .i64 0, .int .i64 0, .int .i64 0, .int .i64 0, .int .i64 0, .int .i64 0] (g8.row b List.mem_cons_self).1 (by exact sizeSixK) (by rfl) (by simp [Value.oneCell']) ?_
                 refine hK.out _ _ ?_ (fun hHeld => ?_)
                 · exact HCC.out _ hk
                 clear hK K
                 try simp only [Act.put, List.setIfInBounds_toArray, List.set_cons_zero, List.set_cons_succ]
                 clear hk
                 refine wpAnyH_ready (rs := [19]) (by kernel_rfl) (by simp) ?_
                 refine AllReadyH.cons (o := { dst := none, op := Op.store 36 (Operand.tmp 13) (Operand.tmp 90), type := 0, pos := "law.go:58", after := #[{ on := 17, ground := Ground.data }, { on := 15, ground := Ground.data }, { on := 18, ground := Ground.chain }, { on := 0, ground := Ground.phase }, { on := 1, ground := Ground.phase }, { on := 2, ground := Ground.phase }, { on := 3, ground := Ground.phase }, { on := 4, ground := Ground.phase }, { on := 5, ground := Ground.phase }, { on := 6, ground := Ground.phase }, { on := 7, ground := Ground.phase }, { on := 8, ground := Ground.phase }, { on := 9, ground := Ground.phase }, { on := 10, ground := Ground.phase }, { on := 11, ground := Ground.phase }, { on := 12, ground := Ground.phase }, { on := 13, ground := Ground.phase }, { on := 14, ground := Ground.phase }, { on := 15, ground := Ground.phase }, { on := 16, ground := Ground.phase }, { on := 17, ground := Ground.phase }, { on := 18, ground := Ground.phase }], guard := none }) rfl (fun K hK => ?_) ?_
                 · have h2 := gs_rows g8 List.mem_cons_self (List.mem_cons_of_mem _ List.mem_cons_self) (Ne.symm g8.mem2) #[.int .i64 k0, .int .i64 k1, .int .i64 k2, .int .i64 k3, .int .i64 k4, .int .i64 k5] #[.int .i64 m0, .int .i64 m1, .int .i64 m2, .int .i64 m3, .int .i64 m4, .int .i64 m5]
                   refine step_store_rowK rfl 36 _ _ rfl c #[.int .i64 m0, .int .i64 m1, .int .i64 m2, .int .i64 m3, .int .i64 m4, .int .i64 m5] rfl rfl 36 #[.int .i64 0, .int .i64 0, .int .i64 0, .int .i64 0, .int .i64 0, .int .i64 0] hc (by exact sizeSixK) (by rfl) (by simp [Value.oneCell']) ?_
                   refine hK.out _ _ ?_ (fun hHeld => ?_)
                   · exact HCC.out _ h2.kept
                   clear hK K
                   try simp only [Act.put, List.setIfInBounds_toArray, List.set_cons_zero, List.set_cons_succ]
                   refine wpAnyH_done (by kernel_rfl) ?_ _
                   go_wp2_with fail
                   go_meet
                   case rel => exact KCut.mk h2
                 exact AllReadyH.nil
               exact AllReadyH.nil
             exact AllReadyH.nil
           exact AllReadyH.nil
         refine AllReadyH.cons (o := { dst := some 12, op := Op.alloc 36, type := 0, pos := "law.go:58", after := #[], guard := none }) rfl (fun K hK => ?_) ?_
         · go_simp
           have g11 := g1.new
           clear g1
           refine hK.out _ _ ?_ (fun hHeld => ?_)
           · exact HCC.out _ g11.kept
           clear hK K
           try simp only [Act.put, List.setIfInBounds_toArray, List.set_cons_zero, List.set_cons_succ]
           generalize V1.alloc (.cells #[.int .i64 0, .int .i64 0, .int .i64 0, .int .i64 0, .int .i64 0, .int .i64 0] 36) = V11 at *
           generalize V1.heap.size = b at *
           refine wpAnyH_ready (rs := [15, 17]) (by kernel_rfl) (by simp) ?_
           refine AllReadyH.cons (o := { dst := some 90, op := Op.call { callee := Callee.value (Operand.func 10), args := #[Operand.tmp 83, Operand.tmp 85, Operand.tmp 87, Operand.tmp 89], argTypes := #[26, 33, 33, 33] }, type := 36, pos := "law.go:58", after := #[{ on := 8, ground := Ground.data }, { on := 10, ground := Ground.data }, { on := 12, ground := Ground.data }, { on := 14, ground := Ground.data }, { on := 7, ground := Ground.chain }], guard := none }) rfl (fun K hK => ?_) ?_
           · go_simp
             go_at_call 10
             with_reducible refine (HS2.out _ _ _ _ _ _ _ _ g11).mono ?_
             rintro e V12 ⟨m0, m1, m2, m3, m4, m5, rfl, g12⟩
             clear g11
             go_wp2_with fail
             refine hK.out _ _ ?_ (fun hHeld => ?_)
             · exact HCC.out _ g12.kept
             clear hK K
             try simp only [Act.put, List.setIfInBounds_toArray, List.set_cons_zero, List.set_cons_succ]
             refine wpAnyH_ready (rs := [17]) (by kernel_rfl) (by simp) ?_
             refine AllReadyH.cons (o := { dst := some 13, op := Op.alloc 36, type := 0, pos := "law.go:58", after := #[], guard := none }) rfl (fun K hK => ?_) ?_
             · go_simp
               have g13 := g12.new
               clear g12
               refine hK.out _ _ ?_ (fun hHeld => ?_)
               · exact HCC.out _ g13.kept
               clear hK K
               try simp only [Act.put, List.setIfInBounds_toArray, List.set_cons_zero, List.set_cons_succ]
               generalize V12.alloc (.cells #[.int .i64 0, .int .i64 0, .int .i64 0, .int .i64 0, .int .i64 0, .int .i64 0] 36) = V13 at *
               generalize V12.heap.size = c at *
               refine wpAnyH_ready (rs := [18]) (by kernel_rfl) (by simp) ?_
               refine AllReadyH.cons (o := { dst := none, op := Op.store 36 (Operand.tmp 12) (Operand.tmp 82), type := 0, pos := "law.go:58", after := #[{ on := 16, ground := Ground.data }, { on := 7, ground := Ground.data }, { on := 15, ground := Ground.chain }, { on := 0, ground := Ground.phase }, { on := 1, ground := Ground.phase }, { on := 2, ground := Ground.phase }, { on := 3, ground := Ground.phase }, { on := 4, ground := Ground.phase }, { on := 5, ground := Ground.phase }, { on := 6, ground := Ground.phase }, { on := 7, ground := Ground.phase }, { on := 8, ground := Ground.textOnly Departure.lateStores }, { on := 9, ground := Ground.textOnly Departure.lateStores }, { on := 10, ground := Ground.textOnly Departure.lateStores }, { on := 11, ground := Ground.textOnly Departure.lateStores }, { on := 12, ground := Ground.textOnly Departure.lateStores }, { on := 13, ground := Ground.textOnly Departure.lateStores }, { on := 14, ground := Ground.textOnly Departure.lateStores }, { on := 15, ground := Ground.textOnly Departure.lateStoresUnsure }, { on := 16, ground := Ground.phase }, { on := 17, ground := Ground.phase }], guard := none }) rfl (fun K hK => ?_) ?_
               · have hx := gs_row g13 (List.mem_cons_of_mem _ List.mem_cons_self) List.mem_cons_self g13.mem2 #[.int .i64 k0, .int .i64 k1, .int .i64 k2, .int .i64 k3, .int .i64 k4, .int .i64 k5]
                 have hc := hx.2
                 have hk := hx.1
                 clear hx
                 refine step_store_rowK rfl 36 _ _ rfl b #[.int .i64 k0, .int .i64 k1, .int .i64 k2, .int .i64 k3, .int .i64 k4, .int .i64 k5] rfl rfl 36 #[.int .i64 0, .int .i64 0, .int .i64 0, .int .i64 0, .int .i64 0, .int .i64 0] (g13.row b (List.mem_cons_of_mem _ List.mem_cons_self)).1 (by exact sizeSixK) (by rfl) (by simp [Value.oneCell']) ?_
                 refine hK.out _ _ ?_ (fun hHeld => ?_)
                 · exact HCC.out _ hk
                 clear hK K
                 try simp only [Act.put, List.setIfInBounds_toArray, List.set_cons_zero, List.set_cons_succ]
                 clear hk
                 refine wpAnyH_ready (rs := [19]) (by kernel_rfl) (by simp) ?_
                 refine AllReadyH.cons (o := { dst := none, op := Op.store 36 (Operand.tmp 13) (Operand.tmp 90), type := 0, pos := "law.go:58", after := #[{ on := 17, ground := Ground.data }, { on := 15, ground := Ground.data }, { on := 18, ground := Ground.chain }, { on := 0, ground := Ground.phase }, { on := 1, ground := Ground.phase }, { on := 2, ground := Ground.phase }, { on := 3, ground := Ground.phase }, { on := 4, ground := Ground.phase }, { on := 5, ground := Ground.phase }, { on := 6, ground := Ground.phase }, { on := 7, ground := Ground.phase }, { on := 8, ground := Ground.phase }, { on := 9, ground := Ground.phase }, { on := 10, ground := Ground.phase }, { on := 11, ground := Ground.phase }, { on := 12, ground := Ground.phase }, { on := 13, ground := Ground.phase }, { on := 14, ground := Ground.phase }, { on := 15, ground := Ground.phase }, { on := 16, ground := Ground.phase }, { on := 17, ground := Ground.phase }, { on := 18, ground := Ground.phase }], guard := none }) rfl (fun K hK => ?_) ?_
                 · have h2 := gs_rows g13 (List.mem_cons_of_mem _ List.mem_cons_self) List.mem_cons_self g13.mem2 #[.int .i64 k0, .int .i64 k1, .int .i64 k2, .int .i64 k3, .int .i64 k4, .int .i64 k5] #[.int .i64 m0, .int .i64 m1, .int .i64 m2, .int .i64 m3, .int .i64 m4, .int .i64 m5]
                   refine step_store_rowK rfl 36 _ _ rfl c #[.int .i64 m0, .int .i64 m1, .int .i64 m2, .int .i64 m3, .int .i64 m4, .int .i64 m5] rfl rfl 36 #[.int .i64 0, .int .i64 0, .int .i64 0, .int .i64 0, .int .i64 0, .int .i64 0] hc (by exact sizeSixK) (by rfl) (by simp [Value.oneCell']) ?_
                   refine hK.out _ _ ?_ (fun hHeld => ?_)
                   · exact HCC.out _ h2.kept
                   clear hK K
                   try simp only [Act.put, List.setIfInBounds_toArray, List.set_cons_zero, List.set_cons_succ]
                   refine wpAnyH_done (by kernel_rfl) ?_ _
                   go_wp2_with fail
                   go_meet
                   case rel => exact KCut.mk h2
                 exact AllReadyH.nil
               exact AllReadyH.nil
             exact AllReadyH.nil
           refine AllReadyH.cons (o := { dst := some 13, op := Op.alloc 36, type := 0, pos := "law.go:58", after := #[], guard := none }) rfl (fun K hK => ?_) ?_
           · go_simp
             have g16 := g11.new
             clear g11
             refine hK.out _ _ ?_ (fun hHeld => ?_)
             · exact HCC.out _ g16.kept
             clear hK K
             try simp only [Act.put, List.setIfInBounds_toArray, List.set_cons_zero, List.set_cons_succ]
             generalize V11.alloc (.cells #[.int .i64 0, .int .i64 0, .int .i64 0, .int .i64 0, .int .i64 0, .int .i64 0] 36) = V16 at *
             generalize V11.heap.size = c at *
             refine wpAnyH_ready (rs := [15]) (by kernel_rfl) (by simp) ?_
             refine AllReadyH.cons (o := { dst := some 90, op := Op.call { callee := Callee.value (Operand.func 10), args := #[Operand.tmp 83, Operand.tmp 85, Operand.tmp 87, Operand.tmp 89], argTypes := #[26, 33, 33, 33] }, type := 36, pos := "law.go:58", after := #[{ on := 8, ground := Ground.data }, { on := 10, ground := Ground.data }, { on := 12, ground := Ground.data }, { on := 14, ground := Ground.data }, { on := 7, ground := Ground.chain }], guard := none }) rfl (fun K hK => ?_) ?_
             · go_simp
               go_at_call 10
               with_reducible refine (HS2.out _ _ _ _ _ _ _ _ g16).mono ?_
               rintro e V17 ⟨m0, m1, m2, m3, m4, m5, rfl, g17⟩
               clear g16
               go_wp2_with fail
               refine hK.out _ _ ?_ (fun hHeld => ?_)
               · exact HCC.out _ g17.kept
               clear hK K
               try simp only [Act.put, List.setIfInBounds_toArray, List.set_cons_zero, List.set_cons_succ]
               refine wpAnyH_ready (rs := [18]) (by kernel_rfl) (by simp) ?_
               refine AllReadyH.cons (o := { dst := none, op := Op.store 36 (Operand.tmp 12) (Operand.tmp 82), type := 0, pos := "law.go:58", after := #[{ on := 16, ground := Ground.data }, { on := 7, ground := Ground.data }, { on := 15, ground := Ground.chain }, { on := 0, ground := Ground.phase }, { on := 1, ground := Ground.phase }, { on := 2, ground := Ground.phase }, { on := 3, ground := Ground.phase }, { on := 4, ground := Ground.phase }, { on := 5, ground := Ground.phase }, { on := 6, ground := Ground.phase }, { on := 7, ground := Ground.phase }, { on := 8, ground := Ground.textOnly Departure.lateStores }, { on := 9, ground := Ground.textOnly Departure.lateStores }, { on := 10, ground := Ground.textOnly Departure.lateStores }, { on := 11, ground := Ground.textOnly Departure.lateStores }, { on := 12, ground := Ground.textOnly Departure.lateStores }, { on := 13, ground := Ground.textOnly Departure.lateStores }, { on := 14, ground := Ground.textOnly Departure.lateStores }, { on := 15, ground := Ground.textOnly Departure.lateStoresUnsure }, { on := 16, ground := Ground.phase }, { on := 17, ground := Ground.phase }], guard := none }) rfl (fun K hK => ?_) ?_
               · have hx := gs_row g17 (List.mem_cons_of_mem _ List.mem_cons_self) List.mem_cons_self g17.mem2 #[.int .i64 k0, .int .i64 k1, .int .i64 k2, .int .i64 k3, .int .i64 k4, .int .i64 k5]
                 have hc := hx.2
                 have hk := hx.1
                 clear hx
                 refine step_store_rowK rfl 36 _ _ rfl b #[.int .i64 k0, .int .i64 k1, .int .i64 k2, .int .i64 k3, .int .i64 k4, .int .i64 k5] rfl rfl 36 #[.int .i64 0, .int .i64 0, .int .i64 0, .int .i64 0, .int .i64 0, .int .i64 0] (g17.row b (List.mem_cons_of_mem _ List.mem_cons_self)).1 (by exact sizeSixK) (by rfl) (by simp [Value.oneCell']) ?_
                 refine hK.out _ _ ?_ (fun hHeld => ?_)
                 · exact HCC.out _ hk
                 clear hK K
                 try simp only [Act.put, List.setIfInBounds_toArray, List.set_cons_zero, List.set_cons_succ]
                 clear hk
                 refine wpAnyH_ready (rs := [19]) (by kernel_rfl) (by simp) ?_
                 refine AllReadyH.cons (o := { dst := none, op := Op.store 36 (Operand.tmp 13) (Operand.tmp 90), type := 0, pos := "law.go:58", after := #[{ on := 17, ground := Ground.data }, { on := 15, ground := Ground.data }, { on := 18, ground := Ground.chain }, { on := 0, ground := Ground.phase }, { on := 1, ground := Ground.phase }, { on := 2, ground := Ground.phase }, { on := 3, ground := Ground.phase }, { on := 4, ground := Ground.phase }, { on := 5, ground := Ground.phase }, { on := 6, ground := Ground.phase }, { on := 7, ground := Ground.phase }, { on := 8, ground := Ground.phase }, { on := 9, ground := Ground.phase }, { on := 10, ground := Ground.phase }, { on := 11, ground := Ground.phase }, { on := 12, ground := Ground.phase }, { on := 13, ground := Ground.phase }, { on := 14, ground := Ground.phase }, { on := 15, ground := Ground.phase }, { on := 16, ground := Ground.phase }, { on := 17, ground := Ground.phase }, { on := 18, ground := Ground.phase }], guard := none }) rfl (fun K hK => ?_) ?_
                 · have h2 := gs_rows g17 (List.mem_cons_of_mem _ List.mem_cons_self) List.mem_cons_self g17.mem2 #[.int .i64 k0, .int .i64 k1, .int .i64 k2, .int .i64 k3, .int .i64 k4, .int .i64 k5] #[.int .i64 m0, .int .i64 m1, .int .i64 m2, .int .i64 m3, .int .i64 m4, .int .i64 m5]
                   refine step_store_rowK rfl 36 _ _ rfl c #[.int .i64 m0, .int .i64 m1, .int .i64 m2, .int .i64 m3, .int .i64 m4, .int .i64 m5] rfl rfl 36 #[.int .i64 0, .int .i64 0, .int .i64 0, .int .i64 0, .int .i64 0, .int .i64 0] hc (by exact sizeSixK) (by rfl) (by simp [Value.oneCell']) ?_
                   refine hK.out _ _ ?_ (fun hHeld => ?_)
                   · exact HCC.out _ h2.kept
                   clear hK K
                   try simp only [Act.put, List.setIfInBounds_toArray, List.set_cons_zero, List.set_cons_succ]
                   refine wpAnyH_done (by kernel_rfl) ?_ _
                   go_wp2_with fail
                   go_meet
                   case rel => exact KCut.mk h2
                 exact AllReadyH.nil
               exact AllReadyH.nil
             exact AllReadyH.nil
           exact AllReadyH.nil
         refine AllReadyH.cons (o := { dst := some 13, op := Op.alloc 36, type := 0, pos := "law.go:58", after := #[], guard := none }) rfl (fun K hK => ?_) ?_
         · go_simp
           have g20 := g1.new
           clear g1
           refine hK.out _ _ ?_ (fun hHeld => ?_)
           · exact HCC.out _ g20.kept
           clear hK K
           try simp only [Act.put, List.setIfInBounds_toArray, List.set_cons_zero, List.set_cons_succ]
           generalize V1.alloc (.cells #[.int .i64 0, .int .i64 0, .int .i64 0, .int .i64 0, .int .i64 0, .int .i64 0] 36) = V20 at *
           generalize V1.heap.size = c at *
           refine wpAnyH_ready (rs := [15, 16]) (by kernel_rfl) (by simp) ?_
           refine AllReadyH.cons (o := { dst := some 90, op := Op.call { callee := Callee.value (Operand.func 10), args := #[Operand.tmp 83, Operand.tmp 85, Operand.tmp 87, Operand.tmp 89], argTypes := #[26, 33, 33, 33] }, type := 36, pos := "law.go:58", after := #[{ on := 8, ground := Ground.data }, { on := 10, ground := Ground.data }, { on := 12, ground := Ground.data }, { on := 14, ground := Ground.data }, { on := 7, ground := Ground.chain }], guard := none }) rfl (fun K hK => ?_) ?_
           · go_simp
             go_at_call 10
             with_reducible refine (HS2.out _ _ _ _ _ _ _ _ g20).mono ?_
             rintro e V21 ⟨m0, m1, m2, m3, m4, m5, rfl, g21⟩
             clear g20
             go_wp2_with fail
             refine hK.out _ _ ?_ (fun hHeld => ?_)
             · exact HCC.out _ g21.kept
             clear hK K
             try simp only [Act.put, List.setIfInBounds_toArray, List.set_cons_zero, List.set_cons_succ]
             refine wpAnyH_ready (rs := [16]) (by kernel_rfl) (by simp) ?_
             refine AllReadyH.cons (o := { dst := some 12, op := Op.alloc 36, type := 0, pos := "law.go:58", after := #[], guard := none }) rfl (fun K hK => ?_) ?_
             · go_simp
               have g22 := g21.new
               clear g21
               refine hK.out _ _ ?_ (fun hHeld => ?_)
               · exact HCC.out _ g22.kept
               clear hK K
               try simp only [Act.put, List.setIfInBounds_toArray, List.set_cons_zero, List.set_cons_succ]
               generalize V21.alloc (.cells #[.int .i64 0, .int .i64 0, .int .i64 0, .int .i64 0, .int .i64 0, .int .i64 0] 36) = V22 at *
               generalize V21.heap.size = b at *
               refine wpAnyH_ready (rs := [18]) (by kernel_rfl) (by simp) ?_
               refine AllReadyH.cons (o := { dst := none, op := Op.store 36 (Operand.tmp 12) (Operand.tmp 82), type := 0, pos := "law.go:58", after := #[{ on := 16, ground := Ground.data }, { on := 7, ground := Ground.data }, { on := 15, ground := Ground.chain }, { on := 0, ground := Ground.phase }, { on := 1, ground := Ground.phase }, { on := 2, ground := Ground.phase }, { on := 3, ground := Ground.phase }, { on := 4, ground := Ground.phase }, { on := 5, ground := Ground.phase }, { on := 6, ground := Ground.phase }, { on := 7, ground := Ground.phase }, { on := 8, ground := Ground.textOnly Departure.lateStores }, { on := 9, ground := Ground.textOnly Departure.lateStores }, { on := 10, ground := Ground.textOnly Departure.lateStores }, { on := 11, ground := Ground.textOnly Departure.lateStores }, { on := 12, ground := Ground.textOnly Departure.lateStores }, { on := 13, ground := Ground.textOnly Departure.lateStores }, { on := 14, ground := Ground.textOnly Departure.lateStores }, { on := 15, ground := Ground.textOnly Departure.lateStoresUnsure }, { on := 16, ground := Ground.phase }, { on := 17, ground := Ground.phase }], guard := none }) rfl (fun K hK => ?_) ?_
               · have hx := gs_row g22 List.mem_cons_self (List.mem_cons_of_mem _ List.mem_cons_self) (Ne.symm g22.mem2) #[.int .i64 k0, .int .i64 k1, .int .i64 k2, .int .i64 k3, .int .i64 k4, .int .i64 k5]
                 have hc := hx.2
                 have hk := hx.1
                 clear hx
                 refine step_store_rowK rfl 36 _ _ rfl b #[.int .i64 k0, .int .i64 k1, .int .i64 k2, .int .i64 k3, .int .i64 k4, .int .i64 k5] rfl rfl 36 #[.int .i64 0, .int .i64 0, .int .i64 0, .int .i64 0, .int .i64 0, .int .i64 0] (g22.row b List.mem_cons_self).1 (by exact sizeSixK) (by rfl) (by simp [Value.oneCell']) ?_
                 refine hK.out _ _ ?_ (fun hHeld => ?_)
                 · exact HCC.out _ hk
                 clear hK K
                 try simp only [Act.put, List.setIfInBounds_toArray, List.set_cons_zero, List.set_cons_succ]
                 clear hk
                 refine wpAnyH_ready (rs := [19]) (by kernel_rfl) (by simp) ?_
                 refine AllReadyH.cons (o := { dst := none, op := Op.store 36 (Operand.tmp 13) (Operand.tmp 90), type := 0, pos := "law.go:58", after := #[{ on := 17, ground := Ground.data }, { on := 15, ground := Ground.data }, { on := 18, ground := Ground.chain }, { on := 0, ground := Ground.phase }, { on := 1, ground := Ground.phase }, { on := 2, ground := Ground.phase }, { on := 3, ground := Ground.phase }, { on := 4, ground := Ground.phase }, { on := 5, ground := Ground.phase }, { on := 6, ground := Ground.phase }, { on := 7, ground := Ground.phase }, { on := 8, ground := Ground.phase }, { on := 9, ground := Ground.phase }, { on := 10, ground := Ground.phase }, { on := 11, ground := Ground.phase }, { on := 12, ground := Ground.phase }, { on := 13, ground := Ground.phase }, { on := 14, ground := Ground.phase }, { on := 15, ground := Ground.phase }, { on := 16, ground := Ground.phase }, { on := 17, ground := Ground.phase }, { on := 18, ground := Ground.phase }], guard := none }) rfl (fun K hK => ?_) ?_
                 · have h2 := gs_rows g22 List.mem_cons_self (List.mem_cons_of_mem _ List.mem_cons_self) (Ne.symm g22.mem2) #[.int .i64 k0, .int .i64 k1, .int .i64 k2, .int .i64 k3, .int .i64 k4, .int .i64 k5] #[.int .i64 m0, .int .i64 m1, .int .i64 m2, .int .i64 m3, .int .i64 m4, .int .i64 m5]
                   refine step_store_rowK rfl 36 _ _ rfl c #[.int .i64 m0, .int .i64 m1, .int .i64 m2, .int .i64 m3, .int .i64 m4, .int .i64 m5] rfl rfl 36 #[.int .i64 0, .int .i64 0, .int .i64 0, .int .i64 0, .int .i64 0, .int .i64 0] hc (by exact sizeSixK) (by rfl) (by simp [Value.oneCell']) ?_
                   refine hK.out _ _ ?_ (fun hHeld => ?_)
                   · exact HCC.out _ h2.kept
                   clear hK K
                   try simp only [Act.put, List.setIfInBounds_toArray, List.set_cons_zero, List.set_cons_succ]
                   refine wpAnyH_done (by kernel_rfl) ?_ _
                   go_wp2_with fail
                   go_meet
                   case rel => exact KCut.mk h2
                 exact AllReadyH.nil
               exact AllReadyH.nil
             exact AllReadyH.nil
           refine AllReadyH.cons (o := { dst := some 12, op := Op.alloc 36, type := 0, pos := "law.go:58", after := #[], guard := none }) rfl (fun K hK => ?_) ?_
           · go_simp
             have g25 := g20.new
             clear g20
             refine hK.out _ _ ?_ (fun hHeld => ?_)
             · exact HCC.out _ g25.kept
             clear hK K
             try simp only [Act.put, List.setIfInBounds_toArray, List.set_cons_zero, List.set_cons_succ]
             generalize V20.alloc (.cells #[.int .i64 0, .int .i64 0, .int .i64 0, .int .i64 0, .int .i64 0, .int .i64 0] 36) = V25 at *
             generalize V20.heap.size = b at *
             refine wpAnyH_ready (rs := [15]) (by kernel_rfl) (by simp) ?_
             refine AllReadyH.cons (o := { dst := some 90, op := Op.call { callee := Callee.value (Operand.func 10), args := #[Operand.tmp 83, Operand.tmp 85, Operand.tmp 87, Operand.tmp 89], argTypes := #[26, 33, 33, 33] }, type := 36, pos := "law.go:58", after := #[{ on := 8, ground := Ground.data }, { on := 10, ground := Ground.data }, { on := 12, ground := Ground.data }, { on := 14, ground := Ground.data }, { on := 7, ground := Ground.chain }], guard := none }) rfl (fun K hK => ?_) ?_
             · go_simp
               go_at_call 10
               with_reducible refine (HS2.out _ _ _ _ _ _ _ _ g25).mono ?_
               rintro e V26 ⟨m0, m1, m2, m3, m4, m5, rfl, g26⟩
               clear g25
               go_wp2_with fail
               refine hK.out _ _ ?_ (fun hHeld => ?_)
               · exact HCC.out _ g26.kept
               clear hK K
               try simp only [Act.put, List.setIfInBounds_toArray, List.set_cons_zero, List.set_cons_succ]
               refine wpAnyH_ready (rs := [18]) (by kernel_rfl) (by simp) ?_
               refine AllReadyH.cons (o := { dst := none, op := Op.store 36 (Operand.tmp 12) (Operand.tmp 82), type := 0, pos := "law.go:58", after := #[{ on := 16, ground := Ground.data }, { on := 7, ground := Ground.data }, { on := 15, ground := Ground.chain }, { on := 0, ground := Ground.phase }, { on := 1, ground := Ground.phase }, { on := 2, ground := Ground.phase }, { on := 3, ground := Ground.phase }, { on := 4, ground := Ground.phase }, { on := 5, ground := Ground.phase }, { on := 6, ground := Ground.phase }, { on := 7, ground := Ground.phase }, { on := 8, ground := Ground.textOnly Departure.lateStores }, { on := 9, ground := Ground.textOnly Departure.lateStores }, { on := 10, ground := Ground.textOnly Departure.lateStores }, { on := 11, ground := Ground.textOnly Departure.lateStores }, { on := 12, ground := Ground.textOnly Departure.lateStores }, { on := 13, ground := Ground.textOnly Departure.lateStores }, { on := 14, ground := Ground.textOnly Departure.lateStores }, { on := 15, ground := Ground.textOnly Departure.lateStoresUnsure }, { on := 16, ground := Ground.phase }, { on := 17, ground := Ground.phase }], guard := none }) rfl (fun K hK => ?_) ?_
               · have hx := gs_row g26 List.mem_cons_self (List.mem_cons_of_mem _ List.mem_cons_self) (Ne.symm g26.mem2) #[.int .i64 k0, .int .i64 k1, .int .i64 k2, .int .i64 k3, .int .i64 k4, .int .i64 k5]
                 have hc := hx.2
                 have hk := hx.1
                 clear hx
                 refine step_store_rowK rfl 36 _ _ rfl b #[.int .i64 k0, .int .i64 k1, .int .i64 k2, .int .i64 k3, .int .i64 k4, .int .i64 k5] rfl rfl 36 #[.int .i64 0, .int .i64 0, .int .i64 0, .int .i64 0, .int .i64 0, .int .i64 0] (g26.row b List.mem_cons_self).1 (by exact sizeSixK) (by rfl) (by simp [Value.oneCell']) ?_
                 refine hK.out _ _ ?_ (fun hHeld => ?_)
                 · exact HCC.out _ hk
                 clear hK K
                 try simp only [Act.put, List.setIfInBounds_toArray, List.set_cons_zero, List.set_cons_succ]
                 clear hk
                 refine wpAnyH_ready (rs := [19]) (by kernel_rfl) (by simp) ?_
                 refine AllReadyH.cons (o := { dst := none, op := Op.store 36 (Operand.tmp 13) (Operand.tmp 90), type := 0, pos := "law.go:58", after := #[{ on := 17, ground := Ground.data }, { on := 15, ground := Ground.data }, { on := 18, ground := Ground.chain }, { on := 0, ground := Ground.phase }, { on := 1, ground := Ground.phase }, { on := 2, ground := Ground.phase }, { on := 3, ground := Ground.phase }, { on := 4, ground := Ground.phase }, { on := 5, ground := Ground.phase }, { on := 6, ground := Ground.phase }, { on := 7, ground := Ground.phase }, { on := 8, ground := Ground.phase }, { on := 9, ground := Ground.phase }, { on := 10, ground := Ground.phase }, { on := 11, ground := Ground.phase }, { on := 12, ground := Ground.phase }, { on := 13, ground := Ground.phase }, { on := 14, ground := Ground.phase }, { on := 15, ground := Ground.phase }, { on := 16, ground := Ground.phase }, { on := 17, ground := Ground.phase }, { on := 18, ground := Ground.phase }], guard := none }) rfl (fun K hK => ?_) ?_
                 · have h2 := gs_rows g26 List.mem_cons_self (List.mem_cons_of_mem _ List.mem_cons_self) (Ne.symm g26.mem2) #[.int .i64 k0, .int .i64 k1, .int .i64 k2, .int .i64 k3, .int .i64 k4, .int .i64 k5] #[.int .i64 m0, .int .i64 m1, .int .i64 m2, .int .i64 m3, .int .i64 m4, .int .i64 m5]
                   refine step_store_rowK rfl 36 _ _ rfl c #[.int .i64 m0, .int .i64 m1, .int .i64 m2, .int .i64 m3, .int .i64 m4, .int .i64 m5] rfl rfl 36 #[.int .i64 0, .int .i64 0, .int .i64 0, .int .i64 0, .int .i64 0, .int .i64 0] hc (by exact sizeSixK) (by rfl) (by simp [Value.oneCell']) ?_
                   refine hK.out _ _ ?_ (fun hHeld => ?_)
                   · exact HCC.out _ h2.kept
                   clear hK K
                   try simp only [Act.put, List.setIfInBounds_toArray, List.set_cons_zero, List.set_cons_succ]
                   refine wpAnyH_done (by kernel_rfl) ?_ _
                   go_wp2_with fail
                   go_meet
                   case rel => exact KCut.mk h2
                 exact AllReadyH.nil
               exact AllReadyH.nil
             exact AllReadyH.nil
           exact AllReadyH.nil
         exact AllReadyH.nil
       refine AllReadyH.cons (o := { dst := some 12, op := Op.alloc 36, type := 0, pos := "law.go:58", after := #[], guard := none }) rfl (fun K hK => ?_) ?_
       · go_simp
         have g29 := g0.new
         clear g0
         refine hK.out _ _ ?_ (fun hHeld => ?_)
         · exact HCC.out _ g29.kept
         clear hK K
         try simp only [Act.put, List.setIfInBounds_toArray, List.set_cons_zero, List.set_cons_succ]
         generalize V0.alloc (.cells #[.int .i64 0, .int .i64 0, .int .i64 0, .int .i64 0, .int .i64 0, .int .i64 0] 36) = V29 at *
         generalize V0.heap.size = b at *
         refine wpAnyH_ready (rs := [7, 17]) (by kernel_rfl) (by simp) ?_
         refine AllReadyH.cons (o := { dst := some 82, op := Op.call { callee := Callee.value (Operand.func 10), args := #[Operand.tmp 75, Operand.tmp 77, Operand.tmp 79, Operand.tmp 81], argTypes := #[26, 33, 33, 33] }, type := 36, pos := "law.go:58", after := #[{ on := 0, ground := Ground.data }, { on := 2, ground := Ground.data }, { on := 4, ground := Ground.data }, { on := 6, ground := Ground.data }], guard := none }) rfl (fun K hK => ?_) ?_
         · go_simp
           go_at_call 10
           with_reducible refine (HS1.out _ _ g29).mono ?_
           rintro e V30 ⟨k0, k1, k2, k3, k4, k5, rfl, g30⟩
           clear g29
           go_wp2_with fail
           refine hK.out _ _ ?_ (fun hHeld => ?_)
           · exact HCC.out _ g30.kept
           clear hK K
           try simp only [Act.put, List.setIfInBounds_toArray, List.set_cons_zero, List.set_cons_succ]
           refine wpAnyH_ready (rs := [15, 17]) (by kernel_rfl) (by simp) ?_
           refine AllReadyH.cons (o := { dst := some 90, op := Op.call { callee := Callee.value (Operand.func 10), args := #[Operand.tmp 83, Operand.tmp 85, Operand.tmp 87, Operand.tmp 89], argTypes := #[26, 33, 33, 33] }, type := 36, pos := "law.go:58", after := #[{ on := 8, ground := Ground.data }, { on := 10, ground := Ground.data }, { on := 12, ground := Ground.data }, { on := 14, ground := Ground.data }, { on := 7, ground := Ground.chain }], guard := none }) rfl (fun K hK => ?_) ?_
           · go_simp
             go_at_call 10
             with_reducible refine (HS2.out _ _ _ _ _ _ _ _ g30).mono ?_
             rintro e V31 ⟨m0, m1, m2, m3, m4, m5, rfl, g31⟩
             clear g30
             go_wp2_with fail
             refine hK.out _ _ ?_ (fun hHeld => ?_)
             · exact HCC.out _ g31.kept
             clear hK K
             try simp only [Act.put, List.setIfInBounds_toArray, List.set_cons_zero, List.set_cons_succ]
             refine wpAnyH_ready (rs := [17]) (by kernel_rfl) (by simp) ?_
             refine AllReadyH.cons (o := { dst := some 13, op := Op.alloc 36, type := 0, pos := "law.go:58", after := #[], guard := none }) rfl (fun K hK => ?_) ?_
             · go_simp
               have g32 := g31.new
               clear g31
               refine hK.out _ _ ?_ (fun hHeld => ?_)
               · exact HCC.out _ g32.kept
               clear hK K
               try simp only [Act.put, List.setIfInBounds_toArray, List.set_cons_zero, List.set_cons_succ]
               generalize V31.alloc (.cells #[.int .i64 0, .int .i64 0, .int .i64 0, .int .i64 0, .int .i64 0, .int .i64 0] 36) = V32 at *
               generalize V31.heap.size = c at *
               refine wpAnyH_ready (rs := [18]) (by kernel_rfl) (by simp) ?_
               refine AllReadyH.cons (o := { dst := none, op := Op.store 36 (Operand.tmp 12) (Operand.tmp 82), type := 0, pos := "law.go:58", after := #[{ on := 16, ground := Ground.data }, { on := 7, ground := Ground.data }, { on := 15, ground := Ground.chain }, { on := 0, ground := Ground.phase }, { on := 1, ground := Ground.phase }, { on := 2, ground := Ground.phase }, { on := 3, ground := Ground.phase }, { on := 4, ground := Ground.phase }, { on := 5, ground := Ground.phase }, { on := 6, ground := Ground.phase }, { on := 7, ground := Ground.phase }, { on := 8, ground := Ground.textOnly Departure.lateStores }, { on := 9, ground := Ground.textOnly Departure.lateStores }, { on := 10, ground := Ground.textOnly Departure.lateStores }, { on := 11, ground := Ground.textOnly Departure.lateStores }, { on := 12, ground := Ground.textOnly Departure.lateStores }, { on := 13, ground := Ground.textOnly Departure.lateStores }, { on := 14, ground := Ground.textOnly Departure.lateStores }, { on := 15, ground := Ground.textOnly Departure.lateStoresUnsure }, { on := 16, ground := Ground.phase }, { on := 17, ground := Ground.phase }], guard := none }) rfl (fun K hK => ?_) ?_
               · have hx := gs_row g32 (List.mem_cons_of_mem _ List.mem_cons_self) List.mem_cons_self g32.mem2 #[.int .i64 k0, .int .i64 k1, .int .i64 k2, .int .i64 k3, .int .i64 k4, .int .i64 k5]
                 have hc := hx.2
                 have hk := hx.1
                 clear hx
                 refine step_store_rowK rfl 36 _ _ rfl b #[.int .i64 k0, .int .i64 k1, .int .i64 k2, .int .i64 k3, .int .i64 k4, .int .i64 k5] rfl rfl 36 #[.int .i64 0, .int .i64 0, .int .i64 0, .int .i64 0, .int .i64 0, .int .i64 0] (g32.row b (List.mem_cons_of_mem _ List.mem_cons_self)).1 (by exact sizeSixK) (by rfl) (by simp [Value.oneCell']) ?_
                 refine hK.out _ _ ?_ (fun hHeld => ?_)
                 · exact HCC.out _ hk
                 clear hK K
                 try simp only [Act.put, List.setIfInBounds_toArray, List.set_cons_zero, List.set_cons_succ]
                 clear hk
                 refine wpAnyH_ready (rs := [19]) (by kernel_rfl) (by simp) ?_
                 refine AllReadyH.cons (o := { dst := none, op := Op.store 36 (Operand.tmp 13) (Operand.tmp 90), type := 0, pos := "law.go:58", after := #[{ on := 17, ground := Ground.data }, { on := 15, ground := Ground.data }, { on := 18, ground := Ground.chain }, { on := 0, ground := Ground.phase }, { on := 1, ground := Ground.phase }, { on := 2, ground := Ground.phase }, { on := 3, ground := Ground.phase }, { on := 4, ground := Ground.phase }, { on := 5, ground := Ground.phase }, { on := 6, ground := Ground.phase }, { on := 7, ground := Ground.phase }, { on := 8, ground := Ground.phase }, { on := 9, ground := Ground.phase }, { on := 10, ground := Ground.phase }, { on := 11, ground := Ground.phase }, { on := 12, ground := Ground.phase }, { on := 13, ground := Ground.phase }, { on := 14, ground := Ground.phase }, { on := 15, ground := Ground.phase }, { on := 16, ground := Ground.phase }, { on := 17, ground := Ground.phase }, { on := 18, ground := Ground.phase }], guard := none }) rfl (fun K hK => ?_) ?_
                 · have h2 := gs_rows g32 (List.mem_cons_of_mem _ List.mem_cons_self) List.mem_cons_self g32.mem2 #[.int .i64 k0, .int .i64 k1, .int .i64 k2, .int .i64 k3, .int .i64 k4, .int .i64 k5] #[.int .i64 m0, .int .i64 m1, .int .i64 m2, .int .i64 m3, .int .i64 m4, .int .i64 m5]
                   refine step_store_rowK rfl 36 _ _ rfl c #[.int .i64 m0, .int .i64 m1, .int .i64 m2, .int .i64 m3, .int .i64 m4, .int .i64 m5] rfl rfl 36 #[.int .i64 0, .int .i64 0, .int .i64 0, .int .i64 0, .int .i64 0, .int .i64 0] hc (by exact sizeSixK) (by rfl) (by simp [Value.oneCell']) ?_
                   refine hK.out _ _ ?_ (fun hHeld => ?_)
                   · exact HCC.out _ h2.kept
                   clear hK K
                   try simp only [Act.put, List.setIfInBounds_toArray, List.set_cons_zero, List.set_cons_succ]
                   refine wpAnyH_done (by kernel_rfl) ?_ _
                   go_wp2_with fail
                   go_meet
                   case rel => exact KCut.mk h2
                 exact AllReadyH.nil
               exact AllReadyH.nil
             exact AllReadyH.nil
           refine AllReadyH.cons (o := { dst := some 13, op := Op.alloc 36, type := 0, pos := "law.go:58", after := #[], guard := none }) rfl (fun K hK => ?_) ?_
           · go_simp
             have g35 := g30.new
             clear g30
             refine hK.out _ _ ?_ (fun hHeld => ?_)
             · exact HCC.out _ g35.kept
             clear hK K
             try simp only [Act.put, List.setIfInBounds_toArray, List.set_cons_zero, List.set_cons_succ]
             generalize V30.alloc (.cells #[.int .i64 0, .int .i64 0, .int .i64 0, .int .i64 0, .int .i64 0, .int .i64 0] 36) = V35 at *
             generalize V30.heap.size = c at *
             refine wpAnyH_ready (rs := [15]) (by kernel_rfl) (by simp) ?_
             refine AllReadyH.cons (o := { dst := some 90, op := Op.call { callee := Callee.value (Operand.func 10), args := #[Operand.tmp 83, Operand.tmp 85, Operand.tmp 87, Operand.tmp 89], argTypes := #[26, 33, 33, 33] }, type := 36, pos := "law.go:58", after := #[{ on := 8, ground := Ground.data }, { on := 10, ground := Ground.data }, { on := 12, ground := Ground.data }, { on := 14, ground := Ground.data }, { on := 7, ground := Ground.chain }], guard := none }) rfl (fun K hK => ?_) ?_
             · go_simp
               go_at_call 10
               with_reducible refine (HS2.out _ _ _ _ _ _ _ _ g35).mono ?_
               rintro e V36 ⟨m0, m1, m2, m3, m4, m5, rfl, g36⟩
               clear g35
               go_wp2_with fail
               refine hK.out _ _ ?_ (fun hHeld => ?_)
               · exact HCC.out _ g36.kept
               clear hK K
               try simp only [Act.put, List.setIfInBounds_toArray, List.set_cons_zero, List.set_cons_succ]
               refine wpAnyH_ready (rs := [18]) (by kernel_rfl) (by simp) ?_
               refine AllReadyH.cons (o := { dst := none, op := Op.store 36 (Operand.tmp 12) (Operand.tmp 82), type := 0, pos := "law.go:58", after := #[{ on := 16, ground := Ground.data }, { on := 7, ground := Ground.data }, { on := 15, ground := Ground.chain }, { on := 0, ground := Ground.phase }, { on := 1, ground := Ground.phase }, { on := 2, ground := Ground.phase }, { on := 3, ground := Ground.phase }, { on := 4, ground := Ground.phase }, { on := 5, ground := Ground.phase }, { on := 6, ground := Ground.phase }, { on := 7, ground := Ground.phase }, { on := 8, ground := Ground.textOnly Departure.lateStores }, { on := 9, ground := Ground.textOnly Departure.lateStores }, { on := 10, ground := Ground.textOnly Departure.lateStores }, { on := 11, ground := Ground.textOnly Departure.lateStores }, { on := 12, ground := Ground.textOnly Departure.lateStores }, { on := 13, ground := Ground.textOnly Departure.lateStores }, { on := 14, ground := Ground.textOnly Departure.lateStores }, { on := 15, ground := Ground.textOnly Departure.lateStoresUnsure }, { on := 16, ground := Ground.phase }, { on := 17, ground := Ground.phase }], guard := none }) rfl (fun K hK => ?_) ?_
               · have hx := gs_row g36 (List.mem_cons_of_mem _ List.mem_cons_self) List.mem_cons_self g36.mem2 #[.int .i64 k0, .int .i64 k1, .int .i64 k2, .int .i64 k3, .int .i64 k4, .int .i64 k5]
                 have hc := hx.2
                 have hk := hx.1
                 clear hx
                 refine step_store_rowK rfl 36 _ _ rfl b #[.int .i64 k0, .int .i64 k1, .int .i64 k2, .int .i64 k3, .int .i64 k4, .int .i64 k5] rfl rfl 36 #[.int .i64 0, .int .i64 0, .int .i64 0, .int .i64 0, .int .i64 0, .int .i64 0] (g36.row b (List.mem_cons_of_mem _ List.mem_cons_self)).1 (by exact sizeSixK) (by rfl) (by simp [Value.oneCell']) ?_
                 refine hK.out _ _ ?_ (fun hHeld => ?_)
                 · exact HCC.out _ hk
                 clear hK K
                 try simp only [Act.put, List.setIfInBounds_toArray, List.set_cons_zero, List.set_cons_succ]
                 clear hk
                 refine wpAnyH_ready (rs := [19]) (by kernel_rfl) (by simp) ?_
                 refine AllReadyH.cons (o := { dst := none, op := Op.store 36 (Operand.tmp 13) (Operand.tmp 90), type := 0, pos := "law.go:58", after := #[{ on := 17, ground := Ground.data }, { on := 15, ground := Ground.data }, { on := 18, ground := Ground.chain }, { on := 0, ground := Ground.phase }, { on := 1, ground := Ground.phase }, { on := 2, ground := Ground.phase }, { on := 3, ground := Ground.phase }, { on := 4, ground := Ground.phase }, { on := 5, ground := Ground.phase }, { on := 6, ground := Ground.phase }, { on := 7, ground := Ground.phase }, { on := 8, ground := Ground.phase }, { on := 9, ground := Ground.phase }, { on := 10, ground := Ground.phase }, { on := 11, ground := Ground.phase }, { on := 12, ground := Ground.phase }, { on := 13, ground := Ground.phase }, { on := 14, ground := Ground.phase }, { on := 15, ground := Ground.phase }, { on := 16, ground := Ground.phase }, { on := 17, ground := Ground.phase }, { on := 18, ground := Ground.phase }], guard := none }) rfl (fun K hK => ?_) ?_
                 · have h2 := gs_rows g36 (List.mem_cons_of_mem _ List.mem_cons_self) List.mem_cons_self g36.mem2 #[.int .i64 k0, .int .i64 k1, .int .i64 k2, .int .i64 k3, .int .i64 k4, .int .i64 k5] #[.int .i64 m0, .int .i64 m1, .int .i64 m2, .int .i64 m3, .int .i64 m4, .int .i64 m5]
                   refine step_store_rowK rfl 36 _ _ rfl c #[.int .i64 m0, .int .i64 m1, .int .i64 m2, .int .i64 m3, .int .i64 m4, .int .i64 m5] rfl rfl 36 #[.int .i64 0, .int .i64 0, .int .i64 0, .int .i64 0, .int .i64 0, .int .i64 0] hc (by exact sizeSixK) (by rfl) (by simp [Value.oneCell']) ?_
                   refine hK.out _ _ ?_ (fun hHeld => ?_)
                   · exact HCC.out _ h2.kept
                   clear hK K
                   try simp only [Act.put, List.setIfInBounds_toArray, List.set_cons_zero, List.set_cons_succ]
                   refine wpAnyH_done (by kernel_rfl) ?_ _
                   go_wp2_with fail
                   go_meet
                   case rel => exact KCut.mk h2
                 exact AllReadyH.nil
               exact AllReadyH.nil
             exact AllReadyH.nil
           exact AllReadyH.nil
         refine AllReadyH.cons (o := { dst := some 13, op := Op.alloc 36, type := 0, pos := "law.go:58", after := #[], guard := none }) rfl (fun K hK => ?_) ?_
         · go_simp
           have g39 := g29.new
           clear g29
           refine hK.out _ _ ?_ (fun hHeld => ?_)
           · exact HCC.out _ g39.kept
           clear hK K
           try simp only [Act.put, List.setIfInBounds_toArray, List.set_cons_zero, List.set_cons_succ]
           generalize V29.alloc (.cells #[.int .i64 0, .int .i64 0, .int .i64 0, .int .i64 0, .int .i64 0, .int .i64 0] 36) = V39 at *
           generalize V29.heap.size = c at *
           refine wpAnyH_ready (rs := [7]) (by kernel_rfl) (by simp) ?_
           refine AllReadyH.cons (o := { dst := some 82, op := Op.call { callee := Callee.value (Operand.func 10), args := #[Operand.tmp 75, Operand.tmp 77, Operand.tmp 79, Operand.tmp 81], argTypes := #[26, 33, 33, 33] }, type := 36, pos := "law.go:58", after := #[{ on := 0, ground := Ground.data }, { on := 2, ground := Ground.data }, { on := 4, ground := Ground.data }, { on := 6, ground := Ground.data }], guard := none }) rfl (fun K hK => ?_) ?_
           · go_simp
             go_at_call 10
             with_reducible refine (HS1.out _ _ g39).mono ?_
             rintro e V40 ⟨k0, k1, k2, k3, k4, k5, rfl, g40⟩
             clear g39
             go_wp2_with fail
             refine hK.out _ _ ?_ (fun hHeld => ?_)
             · exact HCC.out _ g40.kept
             clear hK K
             try simp only [Act.put, List.setIfInBounds_toArray, List.set_cons_zero, List.set_cons_succ]
             refine wpAnyH_ready (rs := [15]) (by kernel_rfl) (by simp) ?_
             refine AllReadyH.cons (o := { dst := some 90, op := Op.call { callee := Callee.value (Operand.func 10), args := #[Operand.tmp 83, Operand.tmp 85, Operand.tmp 87, Operand.tmp 89], argTypes := #[26, 33, 33, 33] }, type := 36, pos := "law.go:58", after := #[{ on := 8, ground := Ground.data }, { on := 10, ground := Ground.data }, { on := 12, ground := Ground.data }, { on := 14, ground := Ground.data }, { on := 7, ground := Ground.chain }], guard := none }) rfl (fun K hK => ?_) ?_
             · go_simp
               go_at_call 10
               with_reducible refine (HS2.out _ _ _ _ _ _ _ _ g40).mono ?_
               rintro e V41 ⟨m0, m1, m2, m3, m4, m5, rfl, g41⟩
               clear g40
               go_wp2_with fail
               refine hK.out _ _ ?_ (fun hHeld => ?_)
               · exact HCC.out _ g41.kept
               clear hK K
               try simp only [Act.put, List.setIfInBounds_toArray, List.set_cons_zero, List.set_cons_succ]
               refine wpAnyH_ready (rs := [18]) (by kernel_rfl) (by simp) ?_
               refine AllReadyH.cons (o := { dst := none, op := Op.store 36 (Operand.tmp 12) (Operand.tmp 82), type := 0, pos := "law.go:58", after := #[{ on := 16, ground := Ground.data }, { on := 7, ground := Ground.data }, { on := 15, ground := Ground.chain }, { on := 0, ground := Ground.phase }, { on := 1, ground := Ground.phase }, { on := 2, ground := Ground.phase }, { on := 3, ground := Ground.phase }, { on := 4, ground := Ground.phase }, { on := 5, ground := Ground.phase }, { on := 6, ground := Ground.phase }, { on := 7, ground := Ground.phase }, { on := 8, ground := Ground.textOnly Departure.lateStores }, { on := 9, ground := Ground.textOnly Departure.lateStores }, { on := 10, ground := Ground.textOnly Departure.lateStores }, { on := 11, ground := Ground.textOnly Departure.lateStores }, { on := 12, ground := Ground.textOnly Departure.lateStores }, { on := 13, ground := Ground.textOnly Departure.lateStores }, { on := 14, ground := Ground.textOnly Departure.lateStores }, { on := 15, ground := Ground.textOnly Departure.lateStoresUnsure }, { on := 16, ground := Ground.phase }, { on := 17, ground := Ground.phase }], guard := none }) rfl (fun K hK => ?_) ?_
               · have hx := gs_row g41 (List.mem_cons_of_mem _ List.mem_cons_self) List.mem_cons_self g41.mem2 #[.int .i64 k0, .int .i64 k1, .int .i64 k2, .int .i64 k3, .int .i64 k4, .int .i64 k5]
                 have hc := hx.2
                 have hk := hx.1
                 clear hx
                 refine step_store_rowK rfl 36 _ _ rfl b #[.int .i64 k0, .int .i64 k1, .int .i64 k2, .int .i64 k3, .int .i64 k4, .int .i64 k5] rfl rfl 36 #[.int .i64 0, .int .i64 0, .int .i64 0, .int .i64 0, .int .i64 0, .int .i64 0] (g41.row b (List.mem_cons_of_mem _ List.mem_cons_self)).1 (by exact sizeSixK) (by rfl) (by simp [Value.oneCell']) ?_
                 refine hK.out _ _ ?_ (fun hHeld => ?_)
                 · exact HCC.out _ hk
                 clear hK K
                 try simp only [Act.put, List.setIfInBounds_toArray, List.set_cons_zero, List.set_cons_succ]
                 clear hk
                 refine wpAnyH_ready (rs := [19]) (by kernel_rfl) (by simp) ?_
                 refine AllReadyH.cons (o := { dst := none, op := Op.store 36 (Operand.tmp 13) (Operand.tmp 90), type := 0, pos := "law.go:58", after := #[{ on := 17, ground := Ground.data }, { on := 15, ground := Ground.data }, { on := 18, ground := Ground.chain }, { on := 0, ground := Ground.phase }, { on := 1, ground := Ground.phase }, { on := 2, ground := Ground.phase }, { on := 3, ground := Ground.phase }, { on := 4, ground := Ground.phase }, { on := 5, ground := Ground.phase }, { on := 6, ground := Ground.phase }, { on := 7, ground := Ground.phase }, { on := 8, ground := Ground.phase }, { on := 9, ground := Ground.phase }, { on := 10, ground := Ground.phase }, { on := 11, ground := Ground.phase }, { on := 12, ground := Ground.phase }, { on := 13, ground := Ground.phase }, { on := 14, ground := Ground.phase }, { on := 15, ground := Ground.phase }, { on := 16, ground := Ground.phase }, { on := 17, ground := Ground.phase }, { on := 18, ground := Ground.phase }], guard := none }) rfl (fun K hK => ?_) ?_
                 · have h2 := gs_rows g41 (List.mem_cons_of_mem _ List.mem_cons_self) List.mem_cons_self g41.mem2 #[.int .i64 k0, .int .i64 k1, .int .i64 k2, .int .i64 k3, .int .i64 k4, .int .i64 k5] #[.int .i64 m0, .int .i64 m1, .int .i64 m2, .int .i64 m3, .int .i64 m4, .int .i64 m5]
                   refine step_store_rowK rfl 36 _ _ rfl c #[.int .i64 m0, .int .i64 m1, .int .i64 m2, .int .i64 m3, .int .i64 m4, .int .i64 m5] rfl rfl 36 #[.int .i64 0, .int .i64 0, .int .i64 0, .int .i64 0, .int .i64 0, .int .i64 0] hc (by exact sizeSixK) (by rfl) (by simp [Value.oneCell']) ?_
                   refine hK.out _ _ ?_ (fun hHeld => ?_)
                   · exact HCC.out _ h2.kept
                   clear hK K
                   try simp only [Act.put, List.setIfInBounds_toArray, List.set_cons_zero, List.set_cons_succ]
                   refine wpAnyH_done (by kernel_rfl) ?_ _
                   go_wp2_with fail
                   go_meet
                   case rel => exact KCut.mk h2
                 exact AllReadyH.nil
               exact AllReadyH.nil
             exact AllReadyH.nil
           exact AllReadyH.nil
         exact AllReadyH.nil
       refine AllReadyH.cons (o := { dst := some 13, op := Op.alloc 36, type := 0, pos := "law.go:58", after := #[], guard := none }) rfl (fun K hK => ?_) ?_
       · go_simp
         have g44 := g0.new
         clear g0
         refine hK.out _ _ ?_ (fun hHeld => ?_)
         · exact HCC.out _ g44.kept
         clear hK K
         try simp only [Act.put, List.setIfInBounds_toArray, List.set_cons_zero, List.set_cons_succ]
         generalize V0.alloc (.cells #[.int .i64 0, .int .i64 0, .int .i64 0, .int .i64 0, .int .i64 0, .int .i64 0] 36) = V44 at *
         generalize V0.heap.size = c at *
         refine wpAnyH_ready (rs := [7, 16]) (by kernel_rfl) (by simp) ?_
         refine AllReadyH.cons (o := { dst := some 82, op := Op.call { callee := Callee.value (Operand.func 10), args := #[Operand.tmp 75, Operand.tmp 77, Operand.tmp 79, Operand.tmp 81], argTypes := #[26, 33, 33, 33] }, type := 36, pos := "law.go:58", after := #[{ on := 0, ground := Ground.data }, { on := 2, ground := Ground.data }, { on := 4, ground := Ground.data }, { on := 6, ground := Ground.data }], guard := none }) rfl (fun K hK => ?_) ?_
         · go_simp
           go_at_call 10
           with_reducible refine (HS1.out _ _ g44).mono ?_
           rintro e V45 ⟨k0, k1, k2, k3, k4, k5, rfl, g45⟩
           clear g44
           go_wp2_with fail
           refine hK.out _ _ ?_ (fun hHeld => ?_)
           · exact HCC.out _ g45.kept
           clear hK K
           try simp only [Act.put, List.setIfInBounds_toArray, List.set_cons_zero, List.set_cons_succ]
           refine wpAnyH_ready (rs := [15, 16]) (by kernel_rfl) (by simp) ?_
           refine AllReadyH.cons (o := { dst := some 90, op := Op.call { callee := Callee.value (Operand.func 10), args := #[Operand.tmp 83, Operand.tmp 85, Operand.tmp 87, Operand.tmp 89], argTypes := #[26, 33, 33, 33] }, type := 36, pos := "law.go:58", after := #[{ on := 8, ground := Ground.data }, { on := 10, ground := Ground.data }, { on := 12, ground := Ground.data }, { on := 14, ground := Ground.data }, { on := 7, ground := Ground.chain }], guard := none }) rfl (fun K hK => ?_) ?_
           · go_simp
             go_at_call 10
             with_reducible refine (HS2.out _ _ _ _ _ _ _ _ g45).mono ?_
             rintro e V46 ⟨m0, m1, m2, m3, m4, m5, rfl, g46⟩
             clear g45
             go_wp2_with fail
             refine hK.out _ _ ?_ (fun hHeld => ?_)
             · exact HCC.out _ g46.kept
             clear hK K
             try simp only [Act.put, List.setIfInBounds_toArray, List.set_cons_zero, List.set_cons_succ]
             refine wpAnyH_ready (rs := [16]) (by kernel_rfl) (by simp) ?_
             refine AllReadyH.cons (o := { dst := some 12, op := Op.alloc 36, type := 0, pos := "law.go:58", after := #[], guard := none }) rfl (fun K hK => ?_) ?_
             · go_simp
               have g47 := g46.new
               clear g46
               refine hK.out _ _ ?_ (fun hHeld => ?_)
               · exact HCC.out _ g47.kept
               clear hK K
               try simp only [Act.put, List.setIfInBounds_toArray, List.set_cons_zero, List.set_cons_succ]
               generalize V46.alloc (.cells #[.int .i64 0, .int .i64 0, .int .i64 0, .int .i64 0, .int .i64 0, .int .i64 0] 36) = V47 at *
               generalize V46.heap.size = b at *
               refine wpAnyH_ready (rs := [18]) (by kernel_rfl) (by simp) ?_
               refine AllReadyH.cons (o := { dst := none, op := Op.store 36 (Operand.tmp 12) (Operand.tmp 82), type := 0, pos := "law.go:58", after := #[{ on := 16, ground := Ground.data }, { on := 7, ground := Ground.data }, { on := 15, ground := Ground.chain }, { on := 0, ground := Ground.phase }, { on := 1, ground := Ground.phase }, { on := 2, ground := Ground.phase }, { on := 3, ground := Ground.phase }, { on := 4, ground := Ground.phase }, { on := 5, ground := Ground.phase }, { on := 6, ground := Ground.phase }, { on := 7, ground := Ground.phase }, { on := 8, ground := Ground.textOnly Departure.lateStores }, { on := 9, ground := Ground.textOnly Departure.lateStores }, { on := 10, ground := Ground.textOnly Departure.lateStores }, { on := 11, ground := Ground.textOnly Departure.lateStores }, { on := 12, ground := Ground.textOnly Departure.lateStores }, { on := 13, ground := Ground.textOnly Departure.lateStores }, { on := 14, ground := Ground.textOnly Departure.lateStores }, { on := 15, ground := Ground.textOnly Departure.lateStoresUnsure }, { on := 16, ground := Ground.phase }, { on := 17, ground := Ground.phase }], guard := none }) rfl (fun K hK => ?_) ?_
               · have hx := gs_row g47 List.mem_cons_self (List.mem_cons_of_mem _ List.mem_cons_self) (Ne.symm g47.mem2) #[.int .i64 k0, .int .i64 k1, .int .i64 k2, .int .i64 k3, .int .i64 k4, .int .i64 k5]
                 have hc := hx.2
                 have hk := hx.1
                 clear hx
                 refine step_store_rowK rfl 36 _ _ rfl b #[.int .i64 k0, .int .i64 k1, .int .i64 k2, .int .i64 k3, .int .i64 k4, .int .i64 k5] rfl rfl 36 #[.int .i64 0, .int .i64 0, .int .i64 0, .int .i64 0, .int .i64 0, .int .i64 0] (g47.row b List.mem_cons_self).1 (by exact sizeSixK) (by rfl) (by simp [Value.oneCell']) ?_
                 refine hK.out _ _ ?_ (fun hHeld => ?_)
                 · exact HCC.out _ hk
                 clear hK K
                 try simp only [Act.put, List.setIfInBounds_toArray, List.set_cons_zero, List.set_cons_succ]
                 clear hk
                 refine wpAnyH_ready (rs := [19]) (by kernel_rfl) (by simp) ?_
                 refine AllReadyH.cons (o := { dst := none, op := Op.store 36 (Operand.tmp 13) (Operand.tmp 90), type := 0, pos := "law.go:58", after := #[{ on := 17, ground := Ground.data }, { on := 15, ground := Ground.data }, { on := 18, ground := Ground.chain }, { on := 0, ground := Ground.phase }, { on := 1, ground := Ground.phase }, { on := 2, ground := Ground.phase }, { on := 3, ground := Ground.phase }, { on := 4, ground := Ground.phase }, { on := 5, ground := Ground.phase }, { on := 6, ground := Ground.phase }, { on := 7, ground := Ground.phase }, { on := 8, ground := Ground.phase }, { on := 9, ground := Ground.phase }, { on := 10, ground := Ground.phase }, { on := 11, ground := Ground.phase }, { on := 12, ground := Ground.phase }, { on := 13, ground := Ground.phase }, { on := 14, ground := Ground.phase }, { on := 15, ground := Ground.phase }, { on := 16, ground := Ground.phase }, { on := 17, ground := Ground.phase }, { on := 18, ground := Ground.phase }], guard := none }) rfl (fun K hK => ?_) ?_
                 · have h2 := gs_rows g47 List.mem_cons_self (List.mem_cons_of_mem _ List.mem_cons_self) (Ne.symm g47.mem2) #[.int .i64 k0, .int .i64 k1, .int .i64 k2, .int .i64 k3, .int .i64 k4, .int .i64 k5] #[.int .i64 m0, .int .i64 m1, .int .i64 m2, .int .i64 m3, .int .i64 m4, .int .i64 m5]
                   refine step_store_rowK rfl 36 _ _ rfl c #[.int .i64 m0, .int .i64 m1, .int .i64 m2, .int .i64 m3, .int .i64 m4, .int .i64 m5] rfl rfl 36 #[.int .i64 0, .int .i64 0, .int .i64 0, .int .i64 0, .int .i64 0, .int .i64 0] hc (by exact sizeSixK) (by rfl) (by simp [Value.oneCell']) ?_
                   refine hK.out _ _ ?_ (fun hHeld => ?_)
                   · exact HCC.out _ h2.kept
                   clear hK K
                   try simp only [Act.put, List.setIfInBounds_toArray, List.set_cons_zero, List.set_cons_succ]
                   refine wpAnyH_done (by kernel_rfl) ?_ _
                   go_wp2_with fail
                   go_meet
                   case rel => exact KCut.mk h2
                 exact AllReadyH.nil
               exact AllReadyH.nil
             exact AllReadyH.nil
           refine AllReadyH.cons (o := { dst := some 12, op := Op.alloc 36, type := 0, pos := "law.go:58", after := #[], guard := none }) rfl (fun K hK => ?_) ?_
           · go_simp
             have g50 := g45.new
             clear g45
             refine hK.out _ _ ?_ (fun hHeld => ?_)
             · exact HCC.out _ g50.kept
             clear hK K
             try simp only [Act.put, List.setIfInBounds_toArray, List.set_cons_zero, List.set_cons_succ]
             generalize V45.alloc (.cells #[.int .i64 0, .int .i64 0, .int .i64 0, .int .i64 0, .int .i64 0, .int .i64 0] 36) = V50 at *
             generalize V45.heap.size = b at *
             refine wpAnyH_ready (rs := [15]) (by kernel_rfl) (by simp) ?_
             refine AllReadyH.cons (o := { dst := some 90, op := Op.call { callee := Callee.value (Operand.func 10), args := #[Operand.tmp 83, Operand.tmp 85, Operand.tmp 87, Operand.tmp 89], argTypes := #[26, 33, 33, 33] }, type := 36, pos := "law.go:58", after := #[{ on := 8, ground := Ground.data }, { on := 10, ground := Ground.data }, { on := 12, ground := Ground.data }, { on := 14, ground := Ground.data }, { on := 7, ground := Ground.chain }], guard := none }) rfl (fun K hK => ?_) ?_
             · go_simp
               go_at_call 10
               with_reducible refine (HS2.out _ _ _ _ _ _ _ _ g50).mono ?_
               rintro e V51 ⟨m0, m1, m2, m3, m4, m5, rfl, g51⟩
               clear g50
               go_wp2_with fail
               refine hK.out _ _ ?_ (fun hHeld => ?_)
               · exact HCC.out _ g51.kept
               clear hK K
               try simp only [Act.put, List.setIfInBounds_toArray, List.set_cons_zero, List.set_cons_succ]
               refine wpAnyH_ready (rs := [18]) (by kernel_rfl) (by simp) ?_
               refine AllReadyH.cons (o := { dst := none, op := Op.store 36 (Operand.tmp 12) (Operand.tmp 82), type := 0, pos := "law.go:58", after := #[{ on := 16, ground := Ground.data }, { on := 7, ground := Ground.data }, { on := 15, ground := Ground.chain }, { on := 0, ground := Ground.phase }, { on := 1, ground := Ground.phase }, { on := 2, ground := Ground.phase }, { on := 3, ground := Ground.phase }, { on := 4, ground := Ground.phase }, { on := 5, ground := Ground.phase }, { on := 6, ground := Ground.phase }, { on := 7, ground := Ground.phase }, { on := 8, ground := Ground.textOnly Departure.lateStores }, { on := 9, ground := Ground.textOnly Departure.lateStores }, { on := 10, ground := Ground.textOnly Departure.lateStores }, { on := 11, ground := Ground.textOnly Departure.lateStores }, { on := 12, ground := Ground.textOnly Departure.lateStores }, { on := 13, ground := Ground.textOnly Departure.lateStores }, { on := 14, ground := Ground.textOnly Departure.lateStores }, { on := 15, ground := Ground.textOnly Departure.lateStoresUnsure }, { on := 16, ground := Ground.phase }, { on := 17, ground := Ground.phase }], guard := none }) rfl (fun K hK => ?_) ?_
               · have hx := gs_row g51 List.mem_cons_self (List.mem_cons_of_mem _ List.mem_cons_self) (Ne.symm g51.mem2) #[.int .i64 k0, .int .i64 k1, .int .i64 k2, .int .i64 k3, .int .i64 k4, .int .i64 k5]
                 have hc := hx.2
                 have hk := hx.1
                 clear hx
                 refine step_store_rowK rfl 36 _ _ rfl b #[.int .i64 k0, .int .i64 k1, .int .i64 k2, .int .i64 k3, .int .i64 k4, .int .i64 k5] rfl rfl 36 #[.int .i64 0, .int .i64 0, .int .i64 0, .int .i64 0, .int .i64 0, .int .i64 0] (g51.row b List.mem_cons_self).1 (by exact sizeSixK) (by rfl) (by simp [Value.oneCell']) ?_
                 refine hK.out _ _ ?_ (fun hHeld => ?_)
                 · exact HCC.out _ hk
                 clear hK K
                 try simp only [Act.put, List.setIfInBounds_toArray, List.set_cons_zero, List.set_cons_succ]
                 clear hk
                 refine wpAnyH_ready (rs := [19]) (by kernel_rfl) (by simp) ?_
                 refine AllReadyH.cons (o := { dst := none, op := Op.store 36 (Operand.tmp 13) (Operand.tmp 90), type := 0, pos := "law.go:58", after := #[{ on := 17, ground := Ground.data }, { on := 15, ground := Ground.data }, { on := 18, ground := Ground.chain }, { on := 0, ground := Ground.phase }, { on := 1, ground := Ground.phase }, { on := 2, ground := Ground.phase }, { on := 3, ground := Ground.phase }, { on := 4, ground := Ground.phase }, { on := 5, ground := Ground.phase }, { on := 6, ground := Ground.phase }, { on := 7, ground := Ground.phase }, { on := 8, ground := Ground.phase }, { on := 9, ground := Ground.phase }, { on := 10, ground := Ground.phase }, { on := 11, ground := Ground.phase }, { on := 12, ground := Ground.phase }, { on := 13, ground := Ground.phase }, { on := 14, ground := Ground.phase }, { on := 15, ground := Ground.phase }, { on := 16, ground := Ground.phase }, { on := 17, ground := Ground.phase }, { on := 18, ground := Ground.phase }], guard := none }) rfl (fun K hK => ?_) ?_
                 · have h2 := gs_rows g51 List.mem_cons_self (List.mem_cons_of_mem _ List.mem_cons_self) (Ne.symm g51.mem2) #[.int .i64 k0, .int .i64 k1, .int .i64 k2, .int .i64 k3, .int .i64 k4, .int .i64 k5] #[.int .i64 m0, .int .i64 m1, .int .i64 m2, .int .i64 m3, .int .i64 m4, .int .i64 m5]
                   refine step_store_rowK rfl 36 _ _ rfl c #[.int .i64 m0, .int .i64 m1, .int .i64 m2, .int .i64 m3, .int .i64 m4, .int .i64 m5] rfl rfl 36 #[.int .i64 0, .int .i64 0, .int .i64 0, .int .i64 0, .int .i64 0, .int .i64 0] hc (by exact sizeSixK) (by rfl) (by simp [Value.oneCell']) ?_
                   refine hK.out _ _ ?_ (fun hHeld => ?_)
                   · exact HCC.out _ h2.kept
                   clear hK K
                   try simp only [Act.put, List.setIfInBounds_toArray, List.set_cons_zero, List.set_cons_succ]
                   refine wpAnyH_done (by kernel_rfl) ?_ _
                   go_wp2_with fail
                   go_meet
                   case rel => exact KCut.mk h2
                 exact AllReadyH.nil
               exact AllReadyH.nil
             exact AllReadyH.nil
           exact AllReadyH.nil
         refine AllReadyH.cons (o := { dst := some 12, op := Op.alloc 36, type := 0, pos := "law.go:58", after := #[], guard := none }) rfl (fun K hK => ?_) ?_
         · go_simp
           have g54 := g44.new
           clear g44
           refine hK.out _ _ ?_ (fun hHeld => ?_)
           · exact HCC.out _ g54.kept
           clear hK K
           try simp only [Act.put, List.setIfInBounds_toArray, List.set_cons_zero, List.set_cons_succ]
           generalize V44.alloc (.cells #[.int .i64 0, .int .i64 0, .int .i64 0, .int .i64 0, .int .i64 0, .int .i64 0] 36) = V54 at *
           generalize V44.heap.size = b at *
           refine wpAnyH_ready (rs := [7]) (by kernel_rfl) (by simp) ?_
           refine AllReadyH.cons (o := { dst := some 82, op := Op.call { callee := Callee.value (Operand.func 10), args := #[Operand.tmp 75, Operand.tmp 77, Operand.tmp 79, Operand.tmp 81], argTypes := #[26, 33, 33, 33] }, type := 36, pos := "law.go:58", after := #[{ on := 0, ground := Ground.data }, { on := 2, ground := Ground.data }, { on := 4, ground := Ground.data }, { on := 6, ground := Ground.data }], guard := none }) rfl (fun K hK => ?_) ?_
           · go_simp
             go_at_call 10
             with_reducible refine (HS1.out _ _ g54).mono ?_
             rintro e V55 ⟨k0, k1, k2, k3, k4, k5, rfl, g55⟩
             clear g54
             go_wp2_with fail
             refine hK.out _ _ ?_ (fun hHeld => ?_)
             · exact HCC.out _ g55.kept
             clear hK K
             try simp only [Act.put, List.setIfInBounds_toArray, List.set_cons_zero, List.set_cons_succ]
             refine wpAnyH_ready (rs := [15]) (by kernel_rfl) (by simp) ?_
             refine AllReadyH.cons (o := { dst := some 90, op := Op.call { callee := Callee.value (Operand.func 10), args := #[Operand.tmp 83, Operand.tmp 85, Operand.tmp 87, Operand.tmp 89], argTypes := #[26, 33, 33, 33] }, type := 36, pos := "law.go:58", after := #[{ on := 8, ground := Ground.data }, { on := 10, ground := Ground.data }, { on := 12, ground := Ground.data }, { on := 14, ground := Ground.data }, { on := 7, ground := Ground.chain }], guard := none }) rfl (fun K hK => ?_) ?_
             · go_simp
               go_at_call 10
               with_reducible refine (HS2.out _ _ _ _ _ _ _ _ g55).mono ?_
               rintro e V56 ⟨m0, m1, m2, m3, m4, m5, rfl, g56⟩
               clear g55
               go_wp2_with fail
               refine hK.out _ _ ?_ (fun hHeld => ?_)
               · exact HCC.out _ g56.kept
               clear hK K
               try simp only [Act.put, List.setIfInBounds_toArray, List.set_cons_zero, List.set_cons_succ]
               refine wpAnyH_ready (rs := [18]) (by kernel_rfl) (by simp) ?_
               refine AllReadyH.cons (o := { dst := none, op := Op.store 36 (Operand.tmp 12) (Operand.tmp 82), type := 0, pos := "law.go:58", after := #[{ on := 16, ground := Ground.data }, { on := 7, ground := Ground.data }, { on := 15, ground := Ground.chain }, { on := 0, ground := Ground.phase }, { on := 1, ground := Ground.phase }, { on := 2, ground := Ground.phase }, { on := 3, ground := Ground.phase }, { on := 4, ground := Ground.phase }, { on := 5, ground := Ground.phase }, { on := 6, ground := Ground.phase }, { on := 7, ground := Ground.phase }, { on := 8, ground := Ground.textOnly Departure.lateStores }, { on := 9, ground := Ground.textOnly Departure.lateStores }, { on := 10, ground := Ground.textOnly Departure.lateStores }, { on := 11, ground := Ground.textOnly Departure.lateStores }, { on := 12, ground := Ground.textOnly Departure.lateStores }, { on := 13, ground := Ground.textOnly Departure.lateStores }, { on := 14, ground := Ground.textOnly Departure.lateStores }, { on := 15, ground := Ground.textOnly Departure.lateStoresUnsure }, { on := 16, ground := Ground.phase }, { on := 17, ground := Ground.phase }], guard := none }) rfl (fun K hK => ?_) ?_
               · have hx := gs_row g56 List.mem_cons_self (List.mem_cons_of_mem _ List.mem_cons_self) (Ne.symm g56.mem2) #[.int .i64 k0, .int .i64 k1, .int .i64 k2, .int .i64 k3, .int .i64 k4, .int .i64 k5]
                 have hc := hx.2
                 have hk := hx.1
                 clear hx
                 refine step_store_rowK rfl 36 _ _ rfl b #[.int .i64 k0, .int .i64 k1, .int .i64 k2, .int .i64 k3, .int .i64 k4, .int .i64 k5] rfl rfl 36 #[.int .i64 0, .int .i64 0, .int .i64 0, .int .i64 0, .int .i64 0, .int .i64 0] (g56.row b List.mem_cons_self).1 (by exact sizeSixK) (by rfl) (by simp [Value.oneCell']) ?_
                 refine hK.out _ _ ?_ (fun hHeld => ?_)
                 · exact HCC.out _ hk
                 clear hK K
                 try simp only [Act.put, List.setIfInBounds_toArray, List.set_cons_zero, List.set_cons_succ]
                 clear hk
                 refine wpAnyH_ready (rs := [19]) (by kernel_rfl) (by simp) ?_
                 refine AllReadyH.cons (o := { dst := none, op := Op.store 36 (Operand.tmp 13) (Operand.tmp 90), type := 0, pos := "law.go:58", after := #[{ on := 17, ground := Ground.data }, { on := 15, ground := Ground.data }, { on := 18, ground := Ground.chain }, { on := 0, ground := Ground.phase }, { on := 1, ground := Ground.phase }, { on := 2, ground := Ground.phase }, { on := 3, ground := Ground.phase }, { on := 4, ground := Ground.phase }, { on := 5, ground := Ground.phase }, { on := 6, ground := Ground.phase }, { on := 7, ground := Ground.phase }, { on := 8, ground := Ground.phase }, { on := 9, ground := Ground.phase }, { on := 10, ground := Ground.phase }, { on := 11, ground := Ground.phase }, { on := 12, ground := Ground.phase }, { on := 13, ground := Ground.phase }, { on := 14, ground := Ground.phase }, { on := 15, ground := Ground.phase }, { on := 16, ground := Ground.phase }, { on := 17, ground := Ground.phase }, { on := 18, ground := Ground.phase }], guard := none }) rfl (fun K hK => ?_) ?_
                 · have h2 := gs_rows g56 List.mem_cons_self (List.mem_cons_of_mem _ List.mem_cons_self) (Ne.symm g56.mem2) #[.int .i64 k0, .int .i64 k1, .int .i64 k2, .int .i64 k3, .int .i64 k4, .int .i64 k5] #[.int .i64 m0, .int .i64 m1, .int .i64 m2, .int .i64 m3, .int .i64 m4, .int .i64 m5]
                   refine step_store_rowK rfl 36 _ _ rfl c #[.int .i64 m0, .int .i64 m1, .int .i64 m2, .int .i64 m3, .int .i64 m4, .int .i64 m5] rfl rfl 36 #[.int .i64 0, .int .i64 0, .int .i64 0, .int .i64 0, .int .i64 0, .int .i64 0] hc (by exact sizeSixK) (by rfl) (by simp [Value.oneCell']) ?_
                   refine hK.out _ _ ?_ (fun hHeld => ?_)
                   · exact HCC.out _ h2.kept
                   clear hK K
                   try simp only [Act.put, List.setIfInBounds_toArray, List.set_cons_zero, List.set_cons_succ]
                   refine wpAnyH_done (by kernel_rfl) ?_ _
                   go_wp2_with fail
                   go_meet
                   case rel => exact KCut.mk h2
                 exact AllReadyH.nil
               exact AllReadyH.nil
             exact AllReadyH.nil
           exact AllReadyH.nil
         exact AllReadyH.nil
       exact AllReadyH.nil
      case rest =>
        obtain ⟨k0, k1, k2, k3, k4, k5, m0, m1, m2, m3, m4, m5, b, c, rfl, rfl, h2⟩ := hcut
        have hf := HFin.out k0 k1 k2 k3 k4 k5 m0 m1 m2 m3 m4 m5 b c wc h2
        have HR : Hid (∀ W, Below wc.heap.size wc W → (∀ (i : Nat) (x : Int), ([k0, k1, k2, k3, k4, k5] : List Int)[i]? = some x → W.cell? ⟨b, i, none⟩ = some (.int .i64 x)) ∧ (∀ (i : Nat) (x : Int), ([m0, m1, m2, m3, m4, m5] : List Int)[i]? = some x → W.cell? ⟨c, i, none⟩ = some (.int .i64 x)) ∧ W.cell? ⟨PB, 0, none⟩ = some (.int .i64 p0) ∧ W.cell? ⟨PB, 1, none⟩ = some (.int .i64 p1) ∧ W.cell? ⟨PB, 2, none⟩ = some (.int .i64 p2) ∧ W.cell? ⟨QB, 0, none⟩ = some (.int .i64 q0) ∧ W.cell? ⟨QB, 1, none⟩ = some (.int .i64 q1) ∧ W.cell? ⟨QB, 2, none⟩ = some (.int .i64 q2)) := fun W hb =>
          ⟨fun i x hx => six_get ((Kept.ofBelow hb).hold _ _ _ (by decide) (by decide) h2.s) hx, fun i x hx => six_get ((Kept.ofBelow hb).hold _ _ _ (by decide) (by decide) h2.t) hx, HCC.out W (h2.kept.trans (Kept.ofBelow hb))⟩
        have HT := Lib.hid h2.ta
        have HF := Lib.hid hf
        have HK6 : Hid (∀ i : Nat, i < 6 → ∃ x, ([k0, k1, k2, k3, k4, k5] : List Int)[i]? = some x) := fun i hi => ⟨_, List.getElem?_eq_getElem (by simpa using hi)⟩
        have HM6 : Hid (∀ i : Nat, i < 6 → ∃ x, ([m0, m1, m2, m3, m4, m5] : List Int)[i]? = some x) := fun i hi => ⟨_, List.getElem?_eq_getElem (by simpa using hi)⟩
        have hEq := threeEq p0 p1 p2 q0 q1 q2
        have hE : (((p0 == q0) && ((p1 == q1) && (p2 == q2))) = true ∧ (p0 = q0 ∧ p1 = q1 ∧ p2 = q2)) ∨ (((p0 == q0) && ((p1 == q1) && (p2 == q2))) = false ∧ ¬ (p0 = q0 ∧ p1 = q1 ∧ p2 = q2)) := by
          cases h : ((p0 == q0) && ((p1 == q1) && (p2 == q2)))
          · refine .inr ⟨rfl, fun hh => ?_⟩
            rw [hh.1, hh.2.1, hh.2.2] at h
            simp at h
          · exact .inl ⟨rfl, by simpa using h⟩
        have HE := Lib.hid hE
        clear hf h2 HFin HCC HS1 HS2 g0 ga gaa KAL hE
        go_wp2_with fail
        go_loopw [14] (fun v wi => ∃ i : Nat, i ≤ 6 ∧ v = .int .i64 (i : Int) ∧ Below wc.heap.size wc wi) (fun v _ => 6 - (intOf v).toNat)
        case atStart => exact ⟨0, by omega, rfl, Below.refl _ _⟩
        case round =>
          obtain ⟨i, hi, rfl, hbi⟩ := hrel
          obtain ⟨V0, hV0⟩ : ∃ V0, V0 = wr := ⟨_, rfl⟩
          by_cases hi6 : i < 6
          · have qi : decide ((i : Int) < 6) = true := decide_eq_true (by omega)
            have HBi := Lib.hid hbi
            clear hbi hV0
            go_wp2_with fail
            go_loopw [15] (fun v wk => ∃ k : Nat, k ≤ 6 ∧ v = .int .i64 (k : Int) ∧ Below wc.heap.size wc wk) (fun v _ => 6 - (intOf v).toNat)
            case atStart => exact ⟨0, by omega, rfl, HBi.out⟩
            case round =>
              obtain ⟨k, hk, rfl, hbk⟩ := hrel
              by_cases hk6 : k < 6
              · have qk : decide ((k : Int) < 6) = true := decide_eq_true (by omega)
                obtain ⟨x, hx⟩ := HK6.out i hi6
                obtain ⟨y, hy⟩ := HM6.out k hk6
                obtain ⟨f1, f2⟩ := HF.out i k x y hx hy (by omega) (by omega)
                obtain ⟨c1, c2, s0, s1, s2, s3, s4, s5⟩ := HR.out _ hbk
                have d1 := c1 i x hx
                have d2 := c2 k y hy
                have HBk := Lib.hid hbk
                have hlo : (0 : Int) ≤ (i : Int) := by omega
                have hhi : (i : Int) < 6 := by omega
                have klo : (0 : Int) ≤ (k : Int) := by omega
                have khi : (k : Int) < 6 := by omega
                have r1 : (x == -1) = false := by simpa using f1
                have bb : ∀ g : Bool, (g != g) = false := by simp
                rcases HE.out with ⟨e1, e2⟩ | ⟨e1, e2⟩
                · rw [e1] at hEq
                  obtain ⟨g, hg1, hg2⟩ : ∃ g : Bool, (x == y) = g ∧ ((i : Int) == (k : Int)) = g := by
                    by_cases h : i = k
                    · exact ⟨true, by simpa using f2.2 ⟨e2, h⟩, by simp [h]⟩
                    · exact ⟨false, by simpa using fun e => h (f2.1 e).2, by rw [beq_eq_false_iff_ne]; omega⟩
                  have bg := bb g
                  clear f1 f2 e1 e2 hx hy c1 c2 hbk bb
                  go_wp2_with fail
                  go_quiet (fail)
                  have hbd := below_drewN HBk.out nq
                  go_wp2_with fail
                  go_roundw
                  case rel => exact ⟨k + 1, by omega, by go_num, hbd⟩
                  case measure => simp [intOf]; omega
                · rw [e1] at hEq
                  have hg1 : (x == y) = false := by simpa using fun e => e2 (f2.1 e).1
                  clear f1 f2 e1 e2 hx hy c1 c2 hbk bb
                  go_wp2_with fail
                  go_quiet (fail)
                  have hbd := below_drewN HBk.out nq
                  go_wp2_with fail
                  go_roundw
                  case rel => exact ⟨k + 1, by omega, by go_num, hbd⟩
                  case measure => simp [intOf]; omega
              · have qk : decide ((k : Int) < 6) = false := decide_eq_false (by omega)
                have HBk := Lib.hid hbk
                clear hbk
                go_wp2_with fail
                go_roundw
                case rel => exact ⟨i + 1, by omega, by go_num, HBk.out⟩
                case measure => simp [intOf]; omega
          · have qi : decide ((i : Int) < 6) = false := decide_eq_false (by omega)
            have t9 := Lib.hid (HT.out.below hbi)
            clear hbi hV0
            go_wp2_with (go_at_call 6; (with_reducible refine (HA.out _).mono ?_); rintro e w8 ⟨rfl, b8⟩)
            go_ret
            exact ⟨rfl, HB0.out.trans ((t9.out.below b8).bel.mono HB0.out.size)⟩
end Go.Proofs.Ytemhifeddejkjaa
