/- Layer 13: a stream in memory; Broken, Left, Feed, Close. -/
import Derived.Test.YtlalkpgipenkaaaSx1
namespace Go.Proofs.Ytlalkpgipenkaaa
open Go.RowKit

/-- Block X is a stream with l left and broken by e; it owns the blocks F, all from B on. -/
def StAt (B X : Nat) (l : List UInt8) (e : Nat) (F : Nat → Prop) (w : World) : Prop :=
  ∃ v, Holds w X 72 #[v, .int .i64 (e : Int)] ∧ OffB w B v l ∧ B ≤ X ∧ F = fun k => k = X ∨ v.ownBlock = some k
def StLeft (B X : Nat) (l : List UInt8) (e : Nat) (F : Nat → Prop) (w w' : World) : Prop :=
  ∃ F', StAt B X l e F' w' ∧ Moves F w w' ∧ ∀ k, F' k → F k ∨ w.heap.size ≤ k
theorem StAt.lt {B X : Nat} {l : List UInt8} {e : Nat} {F : Nat → Prop} {w : World} (h : StAt B X l e F w) : ∀ k, F k → B ≤ k ∧ k < w.heap.size := by
  obtain ⟨v, h1, h2, h3, rfl⟩ := h
  rintro k (rfl | hk)
  · exact ⟨h3, h1.lt⟩
  · exact h2.block k hk
theorem StAt.self {B X : Nat} {l : List UInt8} {e : Nat} {F : Nat → Prop} {w : World} (h : StAt B X l e F w) : F X := by
  obtain ⟨v, h1, h2, h3, rfl⟩ := h
  exact .inl rfl
theorem StAt.moves {B X : Nat} {l : List UInt8} {e : Nat} {F S : Nat → Prop} {w w' : World} (h : StAt B X l e F w) (m : Moves S w w') (hS : ∀ k, F k → ¬ S k) : StAt B X l e F w' := by
  obtain ⟨v, h1, h2, h3, rfl⟩ := h
  exact ⟨v, h1.moves m (hS X (.inl rfl)), h2.moves m (fun k hk => hS k (.inr hk)), h3, rfl⟩
theorem StAt.left {B X : Nat} {l : List UInt8} {e : Nat} {F : Nat → Prop} {w w' : World} (h : StAt B X l e F w) (b : Below w.heap.size w w') : StLeft B X l e F w w' :=
  ⟨F, h.moves (Moves.ofBelow (S := nobody) b) (fun _ _ h => h), Moves.ofBelow b, fun _ hk => .inl hk⟩
theorem stCell {w w' : World} (hb : Below w.heap.size w w') {p : Addr} {v : Value} (h : w.cell? p = some v) : w'.cell? p = some v := (hb.cell (World.block_lt_of_cell? w _ h)).trans h

set_option maxRecDepth 100000 in
theorem xBroken_any {w : World} {X e : Nat} (hc : w.cell? ⟨X, 1, none⟩ = some (.int .i64 (e : Int))) : Calls Try.prog 18 #[.pointer (some ⟨X, 0, none⟩)] w fun r w' => r = .returned (.int .i64 (e : Int)) ∧ w' = w := by
  go_enter Try.func18, Try.ntmps18
  go_wp2
  go_ret
  exact ⟨rfl, rfl⟩
set_option maxRecDepth 100000 in
theorem xBroken_nil (w : World) : Calls Try.prog 18 #[.pointer none] w fun r w' => r = .returned (.int .i64 1) ∧ w' = w := by
  go_enter Try.func18, Try.ntmps18
  go_wp2
  go_ret
  exact ⟨rfl, rfl⟩
set_option maxRecDepth 100000 in
theorem xLeft_any {w : World} {X : Nat} {l : List UInt8} {ao : Option Addr} {cap : Nat} (hc : w.cell? ⟨X, 0, none⟩ = some (.slice ao l.length cap)) : Calls Try.prog 17 #[.pointer (some ⟨X, 0, none⟩)] w fun r w' => r = .returned (.int .i64 (l.length : Int)) ∧ w' = w := by
  go_enter Try.func17, Try.ntmps17
  go_wp2
  go_ret
  exact ⟨rfl, rfl⟩
set_option maxRecDepth 100000 in
theorem xLeft_nil (w : World) : Calls Try.prog 17 #[.pointer none] w fun r w' => r = .returned (.int .i64 0) ∧ w' = w := by
  go_enter Try.func17, Try.ntmps17
  go_wp2
  go_ret
  exact ⟨rfl, rfl⟩
set_option maxRecDepth 100000 in
theorem xNew_any (w : World) : Calls Try.prog 8 #[] w fun r w' => r = .returned (.pointer (some ⟨w.heap.size, 0, none⟩)) ∧ StAt w.heap.size w.heap.size [] 0 (fun k => k = w.heap.size) w' ∧ Below w.heap.size w w' := by
  have HH := Lib.hid (Holds.new w 72 #[.slice none 0 0, .int .i64 0])
  have HB := Lib.hid ((Below.refl w.heap.size w).alloc (Nat.le_refl _) (.cells #[.slice none 0 0, .int .i64 0] 72))
  go_enter Try.func8, Try.ntmps8
  go_wp2
  go_ret
  exact ⟨rfl, ⟨_, HH.out, OffB.nil _ _, Nat.le_refl _, by funext k; simp [Value.ownBlock]⟩, HB.out⟩

theorem wpList_appOff {ops : Array Oper} {rest : List Oper} {o : Oper} {a : Act} {w : World} {Q : Exit → Act → World → Prop} (hgd : o.guard = none) (sl x : Operand)
    (ho : o.op = .call { callee := .builtin .append, args := #[sl, x], argTypes := #[39, 9] }) (hty : o.type = 39) {base : Nat} {v : Value} {l : List UInt8} (hs : a.eval sl = v) (hown : OffB w base v l) (s : List UInt8) (hx : a.eval x = .string (bs s))
    (hn : l.length + s.length ≤ 1000000000) (hb : base ≤ w.heap.size)
    (h : ∀ ao c w', OffB w' base (.slice ao (l ++ s).length c) (l ++ s) → w.grownBy w' v.ownBlock → (∀ k, Value.ownBlock (.slice ao (l ++ s).length c) = some k → v.ownBlock = some k ∨ w.heap.size ≤ k) → wpList Try.prog ops Q rest (a.put o.dst (.slice ao (l ++ s).length c)) w') : wpList Try.prog ops Q (o :: rest) a w := by
  refine wpList_plain hgd fun K hK => ?_
  obtain ⟨v', w', hr, h2, h3, h4⟩ := append_off hown s hn hb
  obtain ⟨ao, c, rfl⟩ := h2.len
  unfold Oper.wp execOp
  simp only [ho, hty, resolve, invoke, builtin, Sem.run_bind, Sem.run_pure, Result.andThen_ok, List.map_toArray, List.map_cons, List.map_nil, hs, hx, hr]
  exact hK _ _ (h ao c w' h2 h3 h4)

/-- The stream's first cell set. -/
theorem StAt.put {B X : Nat} {l : List UInt8} {e : Nat} {w w1 : World} {v u : Value} {F : Nat → Prop} (hX : Holds w1 X 72 #[v, .int .i64 (e : Int)]) (hu : OffB w1 B u l) (hBX : B ≤ X) (hm : Moves F w w1) (hFX : F X) (hFu : ∀ k, u.ownBlock = some k → F k ∨ w.heap.size ≤ k) :
    StLeft B X l e F w (w1.setCell ⟨X, 0, none⟩ u) := by
  have hs := Holds.set hX 0 u
  have hm2 : Moves (fun k => k = X) w1 (w1.setCell ⟨X, 0, none⟩ u) := (Moves.refl (fun k => k = X) w1).setCell (p := ⟨X, 0, none⟩) (.inl rfl) u
  exact ⟨_, ⟨u, hs, hu.moves hm2 (fun k hk e => hu.ne hX (by decide) (e ▸ hk)), hBX, rfl⟩, hm.trans hm2 (fun i hi => .inl (by subst hi; exact hFX)), fun k hk => by
    rcases hk with rfl | hk
    · exact .inl hFX
    · exact hFu k hk⟩

set_option maxRecDepth 100000 in
theorem xFeed_ok {B X : Nat} {l : List UInt8} {F : Nat → Prop} {w : World} (h : StAt B X l 0 F w) (s : List UInt8) (hn : l.length + s.length ≤ 1000000) :
    Calls Try.prog 9 #[.pointer (some ⟨X, 0, none⟩), .string (bs s)] w fun r w' => r = .returned (.tuple #[]) ∧ StLeft B X (l ++ s) 0 F w w' := by
  have hF := h.lt
  obtain ⟨v, hX, hv, hBX, rfl⟩ := h
  have c0 := hX.cell 0
  have c1 := hX.cell 1
  have f0 := hX.frozen 0
  have HB := Lib.hid (xBroken_any c1)
  have HX := Lib.hid hX
  have hXl := hX.lt
  obtain ⟨ao, cap, rfl⟩ := hv.len
  have HV := Lib.hid hv
  have hBw : B ≤ w.heap.size := by omega
  have HL := Lib.hid hn
  clear hX hv hF hn
  go_enter Try.func9, Try.ntmps9
  go_wp2_with (first
    | (go_at_call 18; (with_reducible refine HB.out.mono ?_); rintro r w' ⟨rfl, hw⟩; have hw := hw.symm; subst hw)
    | (at_builtin; refine wpList_appOff rfl _ _ rfl rfl rfl HV.out s rfl (by have := HL.out; omega) hBw ?_; intro ao2 c2 w1 hv1 hg1 ho1; rw [List.length_append] at hv1 ho1; have HV1 := Lib.hid hv1; have HG1 := Lib.hid hg1; have HO1 := Lib.hid ho1; have hX1 : Holds w1 X 72 #[.slice ao l.length cap, .int .i64 ((0 : Nat) : Int)] := (hg1.block X hXl (fun e => HV.out.ne HX.out (by decide) e.symm)).trans HX.out; have HX1 := Lib.hid hX1; have g0 := hX1.cell 0; have k0 := hX1.frozen 0; clear hv1 hg1 ho1 hX1))
  go_end0
  exact ⟨rfl, StAt.put HX1.out HV1.out hBX ((Moves.refl _ w).grown HG1.out fun k hk => .inl (.inr hk)) (.inl rfl) (fun k hk => (HO1.out k hk).imp_left .inr)⟩
end Go.Proofs.Ytlalkpgipenkaaa
