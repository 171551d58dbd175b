/- Layer 13: what is taken, as a plain function, on both sides; the document's stream. -/
import Derived.Test.YtlalkpgipenkaaaSx3
import Derived.Test.YtlalkpgipenkaaaLn4
import Derived.BigRegion
namespace Go.Proofs.Ytlalkpgipenkaaa
open Go.RowKit

/-- What is handed back (item, whether, error), what is left, what broke the stream. -/
def stTake (f : List UInt8 × Nat × Nat) (l : List UInt8) (e : Nat) : List UInt8 × Bool × Nat × List UInt8 × Nat :=
  if e ≠ 0 then ([], false, e, l, e) else if f.2.2 = 0 then (f.1, true, 0, l.drop f.2.1, 0) else if f.2.2 = 4 then ([], false, 0, l, 0) else ([], false, f.2.2, [], f.2.2)
theorem stTake_len (f : List UInt8 × Nat × Nat) (l : List UInt8) (e : Nat) : (stTake f l e).2.2.2.1.length ≤ l.length := by
  unfold stTake
  split
  · exact Nat.le_refl _
  · split
    · simp
    · split
      · exact Nat.le_refl _
      · simp
theorem StAt.cell1 {B X : Nat} {l : List UInt8} {e : Nat} {F : Nat → Prop} {w : World} (h : StAt B X l e F w) : w.cell? ⟨X, 1, none⟩ = some (.int .i64 (e : Int)) := by
  obtain ⟨v, hX, hv, hBX, rfl⟩ := h
  exact hX.cell 1
theorem StAt.cell0 {B X : Nat} {l : List UInt8} {e : Nat} {F : Nat → Prop} {w : World} (h : StAt B X l e F w) : ∃ ao cap, w.cell? ⟨X, 0, none⟩ = some (.slice ao l.length cap) := by
  obtain ⟨v, hX, hv, hBX, rfl⟩ := h
  obtain ⟨ao, cap, rfl⟩ := hv.len
  exact ⟨ao, cap, hX.cell 0⟩
theorem StAt.same {B X : Nat} {l : List UInt8} {e : Nat} {F : Nat → Prop} {w : World} (h : StAt B X l e F w) : StLeft B X l e F w w := h.left (Below.refl _ _)
theorem stZ : bs ([] : List UInt8) = ⟨#[]⟩ := rfl

theorem xFeed_any {B X : Nat} {l : List UInt8} {e : Nat} {F : Nat → Prop} {w : World} (h : StAt B X l e F w) (s : List UInt8) (hn : l.length + s.length ≤ 1000000) :
    Calls Try.prog 9 #[.pointer (some ⟨X, 0, none⟩), .string (bs s)] w fun r w' => r = .returned (.tuple #[]) ∧ StLeft B X (if e = 0 then l ++ s else l) e F w w' := by
  by_cases he : e = 0
  · subst he; exact xFeed_ok h s hn
  · rw [if_neg he]
    exact (xFeed_no h.cell1 he (bs s)).mono fun r w' ⟨h1, h2⟩ => ⟨h1, h2 ▸ h.same⟩
theorem xClose_any {B X : Nat} {l : List UInt8} {e : Nat} {F : Nat → Prop} {w : World} (h : StAt B X l e F w) :
    Calls Try.prog 15 #[.pointer (some ⟨X, 0, none⟩)] w fun r w' => r = .returned (.tuple #[]) ∧ StLeft B X (if e = 0 then [] else l) (if e = 0 then 1 else e) F w w' := by
  by_cases he : e = 0
  · subst he; exact xClose_ok h
  · rw [if_neg he, if_neg he]
    exact (xClose_no h.cell1 he).mono fun r w' ⟨h1, h2⟩ => ⟨h1, h2 ▸ h.same⟩
theorem xLine_any {B X : Nat} {l : List UInt8} {e : Nat} {F : Nat → Prop} {w : World} (h : StAt B X l e F w) (hl : l.length ≤ 1000000) :
    Calls Try.prog 11 #[.pointer (some ⟨X, 0, none⟩)] w fun r w' => r = .returned (.tuple #[.string (bs (stTake (lnScan l) l e).1), .bool (stTake (lnScan l) l e).2.1, .int .i64 ((stTake (lnScan l) l e).2.2.1 : Int)]) ∧ StLeft B X (stTake (lnScan l) l e).2.2.2.1 (stTake (lnScan l) l e).2.2.2.2 F w w' := by
  unfold stTake
  by_cases he : e = 0
  · subst he
    rw [if_neg (by simp)]
    by_cases h0 : (lnScan l).2.2 = 0
    · rw [if_pos h0]; exact xLine_done h hl h0
    · rw [if_neg h0]
      by_cases h4 : (lnScan l).2.2 = 4
      · rw [if_pos h4]; exact xLine_short h hl h4
      · rw [if_neg h4]; exact xLine_wrong h hl h0 h4
  · rw [if_pos he]
    exact (xLine_no h.cell1 he).mono fun r w' ⟨h1, h2⟩ => ⟨h1, h2 ▸ h.same⟩
theorem xUnit_any {B X : Nat} {l : List UInt8} {e : Nat} {F : Nat → Prop} {w : World} (h : StAt B X l e F w) (hl : l.length ≤ 1000000) :
    Calls Try.prog 13 #[.pointer (some ⟨X, 0, none⟩)] w fun r w' => r = .returned (.tuple #[.string (bs (stTake (stUnit l) l e).1), .bool (stTake (stUnit l) l e).2.1, .int .i64 ((stTake (stUnit l) l e).2.2.1 : Int)]) ∧ StLeft B X (stTake (stUnit l) l e).2.2.2.1 (stTake (stUnit l) l e).2.2.2.2 F w w' := by
  unfold stTake
  by_cases he : e = 0
  · subst he
    rw [if_neg (by simp)]
    by_cases h0 : (stUnit l).2.2 = 0
    · rw [if_pos h0]; exact xUnit_done h hl h0
    · rw [if_neg h0]
      by_cases h4 : (stUnit l).2.2 = 4
      · rw [if_pos h4]; exact xUnit_short h hl h4
      · rw [if_neg h4]; exact xUnit_wrong h hl h0 h4
  · rw [if_pos he]
    exact (xUnit_no h.cell1 he).mono fun r w' ⟨h1, h2⟩ => ⟨h1, h2 ▸ h.same⟩

/-! ### the document's stream -/
def YAt (w : World) (Y : Nat) (l : List UInt8) (e : Nat) : Prop := Holds w Y 30 #[.string (bs l), .int .i64 (e : Int)]
theorem stAdd (a b : List UInt8) (h : a.length + b.length ≤ 1000000) (W : World) : (Op.stringOp .add (bs a) (bs b)).run Try.prog W = .ok (.string (bs (a ++ b))) W := by
  have h1 := bs_size a
  have h2 := bs_size b
  have := run_string_add_sum (P := Try.prog) W (bs a) (bs b) (by omega)
  rw [this, bs_append]
theorem YAt.put {w w1 : World} {Y : Nat} {a c u v : Value} (h : Holds w Y 30 #[a, c]) (b : Below w.heap.size w w1) :
    Holds (w1.setCell ⟨Y, 0, none⟩ u) Y 30 #[u, c] ∧ Moves (fun k => k = Y) w (w1.setCell ⟨Y, 0, none⟩ u) ∧
    Holds ((w1.setCell ⟨Y, 0, none⟩ u).setCell ⟨Y, 1, none⟩ v) Y 30 #[u, v] ∧ Moves (fun k => k = Y) w ((w1.setCell ⟨Y, 0, none⟩ u).setCell ⟨Y, 1, none⟩ v) := by
  have h1 := h.moves (Moves.ofBelow (S := nobody) b) (fun h => h)
  have m1 : Moves (fun k => k = Y) w w1 := Moves.ofBelow b
  have h2 := Holds.set h1 0 u
  exact ⟨h2, m1.setCell (p := ⟨Y, 0, none⟩) (.inl rfl) u, Holds.set h2 1 v, (m1.setCell (p := ⟨Y, 0, none⟩) (.inl rfl) u).setCell (p := ⟨Y, 1, none⟩) (.inl rfl) v⟩
set_option maxRecDepth 100000 in
theorem yFeed_any {w : World} {Y : Nat} {l : List UInt8} {e : Nat} (h : YAt w Y l e) (s : List UInt8) (hn : l.length + s.length ≤ 1000000) :
    Calls Try.prog 10 #[.pointer (some ⟨Y, 0, none⟩), .string (bs s)] w fun r w' => r = .returned (.tuple #[]) ∧ YAt w' Y (if e = 0 then l ++ s else l) e ∧ Moves (fun k => k = Y) w w' := by
  unfold YAt at *
  have c0 := h.cell 0
  have c1 := h.cell 1
  have f0 := h.frozen 0
  by_cases he : e = 0
  · subst he
    rw [if_pos rfl]
    have g := stAdd l s hn
    have HP := Lib.hid (YAt.put (u := .string (bs (l ++ s))) (v := .int .i64 0) h (Below.refl _ _))
    clear h
    generalize bs (l ++ s) = T at *
    generalize bs l = L at *
    generalize bs s = S at *
    go_enter Try.func10, Try.ntmps10
    go_wp2
    go_end0
    exact ⟨rfl, HP.out.1, HP.out.2.1⟩
  · rw [if_neg he]
    obtain ⟨q1, q2⟩ := stNot he
    have HH := Lib.hid h
    clear he h
    generalize bs l = L at *
    generalize bs s = S at *
    go_enter Try.func10, Try.ntmps10
    go_wp2
    go_end0
    exact ⟨rfl, HH.out, Moves.refl _ _⟩
set_option maxRecDepth 100000 in
theorem yClose_any {w : World} {Y : Nat} {l : List UInt8} {e : Nat} (h : YAt w Y l e) :
    Calls Try.prog 16 #[.pointer (some ⟨Y, 0, none⟩)] w fun r w' => r = .returned (.tuple #[]) ∧ YAt w' Y (if e = 0 then [] else l) (if e = 0 then 1 else e) ∧ Moves (fun k => k = Y) w w' := by
  unfold YAt at *
  have c0 := h.cell 0
  have c1 := h.cell 1
  have f0 := h.frozen 0
  have f1 := h.frozen 1
  by_cases he : e = 0
  · subst he
    rw [if_pos rfl, if_pos rfl]
    have HP := Lib.hid (YAt.put (u := .string ⟨#[]⟩) (v := .int .i64 1) h (Below.refl _ _))
    clear h
    generalize bs l = L at *
    go_enter Try.func16, Try.ntmps16
    go_wp2
    go_end0
    exact ⟨rfl, HP.out.2.2.1, HP.out.2.2.2⟩
  · rw [if_neg he, if_neg he]
    obtain ⟨q1, q2⟩ := stNot he
    have HH := Lib.hid h
    clear he h
    generalize bs l = L at *
    go_enter Try.func16, Try.ntmps16
    go_wp2
    go_end0
    exact ⟨rfl, HH.out, Moves.refl _ _⟩
set_option maxRecDepth 100000 in
theorem yLine_any {w : World} {Y : Nat} {l : List UInt8} {e : Nat} (h : YAt w Y l e) (hl : l.length ≤ 1000000) :
    Calls Try.prog 12 #[.pointer (some ⟨Y, 0, none⟩)] w fun r w' => r = .returned (.tuple #[.string (bs (stTake (lnScan l) l e).1), .bool (stTake (lnScan l) l e).2.1, .int .i64 ((stTake (lnScan l) l e).2.2.1 : Int)]) ∧ YAt w' Y (stTake (lnScan l) l e).2.2.2.1 (stTake (lnScan l) l e).2.2.2.2 ∧ Moves (fun k => k = Y) w w' := by
  unfold YAt stTake at *
  have c0 := h.cell 0
  have c1 := h.cell 1
  by_cases he : e = 0
  · subst he
    rw [if_neg (by simp)]
    have HS := Lib.hid (rlScan_any l hl w)
    have hu := lnScan_used l
    have HX := Lib.hid (fun (W : World) (hW : Below w.heap.size w W) => h.moves (Moves.ofBelow (S := nobody) hW) (fun h => h))
    have hd := bs_drop l (lnScan l).2.1
    have hz := bs_size l
    rw [hz] at hd
    by_cases h0 : (lnScan l).2.2 = 0
    · rw [if_pos h0]
      rw [h0] at HS
      have HP := Lib.hid (fun (W : World) (hW : Below w.heap.size w W) => YAt.put (u := .string (bs (l.drop (lnScan l).2.1))) (v := .int .i64 0) h hW)
      clear h h0
      simp only
      generalize bs (l.drop (lnScan l).2.1) = D at *
      generalize bs (lnScan l).1 = T at *
      generalize (lnScan l).2.1 = m at *
      generalize bs l = L at *
      generalize l.length = n at *
      go_enter Try.func12, Try.ntmps12
      go_wp2_with (go_at_call 41; (with_reducible refine HS.out.mono ?_); rintro r w1 ⟨rfl, b1⟩; have g0 := (HX.out _ b1).cell 0; have k0 := (HX.out _ b1).frozen 0; have HP1 := Lib.hid (HP.out _ b1))
      go_ret3
      exact ⟨rfl, HP1.out.1, HP1.out.2.1⟩
    · rw [if_neg h0]
      by_cases h4 : (lnScan l).2.2 = 4
      · rw [if_pos h4]
        rw [h4] at HS
        have HH := Lib.hid h
        clear h h0 hd
        simp only
        generalize bs (lnScan l).1 = T at *
        generalize (lnScan l).2.1 = m at *
        generalize bs l = L at *
        generalize l.length = n at *
        go_enter Try.func12, Try.ntmps12
        go_wp2_with (go_at_call 41; (with_reducible refine HS.out.mono ?_); rintro r w1 ⟨rfl, b1⟩)
        go_ret3
        exact ⟨rfl, HX.out _ b1, Moves.ofBelow b1⟩
      · rw [if_neg h4]
        have HP := Lib.hid (fun (W : World) (hW : Below w.heap.size w W) => YAt.put (u := .string ⟨#[]⟩) (v := .int .i64 ((lnScan l).2.2 : Int)) h hW)
        have q1 : (((lnScan l).2.2 : Int) == 0) = false := by rw [beq_eq_false_iff_ne]; omega
        have q2 : (((lnScan l).2.2 : Int) != 0) = true := by rw [bne, q1]; rfl
        have q3 : (((lnScan l).2.2 : Int) == 4) = false := by rw [beq_eq_false_iff_ne]; omega
        clear h h0 h4 hd
        simp only
        generalize bs (lnScan l).1 = T at *
        generalize (lnScan l).2.1 = m at *
        generalize (lnScan l).2.2 = c at *
        generalize bs l = L at *
        generalize l.length = n at *
        go_enter Try.func12, Try.ntmps12
        go_wp2_with (go_at_call 41; (with_reducible refine HS.out.mono ?_); rintro r w1 ⟨rfl, b1⟩; have g0 := (HX.out _ b1).cell 0; have k0 := (HX.out _ b1).frozen 0; have g1 := (HX.out _ b1).cell 1; have k1 := (HX.out _ b1).frozen 1; have HP1 := Lib.hid (HP.out _ b1))
        go_ret3
        exact ⟨rfl, HP1.out.2.2.1, HP1.out.2.2.2⟩
  · rw [if_pos he]
    obtain ⟨q1, q2⟩ := stNot he
    have HH := Lib.hid h
    clear he h
    generalize bs l = L at *
    have d1 : w.drew.cell? ⟨Y, 1, none⟩ = _ := c1
    go_enter Try.func12, Try.ntmps12
    go_wp2_with fail
    go_region
    go_wp2_with fail
    go_ret3
    exact ⟨rfl, HH.out, (Moves.refl _ _).drew⟩
set_option maxRecDepth 100000 in
theorem yUnit_any {w : World} {Y : Nat} {l : List UInt8} {e : Nat} (h : YAt w Y l e) (hl : l.length ≤ 1000000) :
    Calls Try.prog 14 #[.pointer (some ⟨Y, 0, none⟩)] w fun r w' => r = .returned (.tuple #[.string (bs (stTake (stUnit l) l e).1), .bool (stTake (stUnit l) l e).2.1, .int .i64 ((stTake (stUnit l) l e).2.2.1 : Int)]) ∧ YAt w' Y (stTake (stUnit l) l e).2.2.2.1 (stTake (stUnit l) l e).2.2.2.2 ∧ Moves (fun k => k = Y) w w' := by
  unfold YAt stTake at *
  have c0 := h.cell 0
  have c1 := h.cell 1
  by_cases he : e = 0
  · subst he
    rw [if_neg (by simp)]
    have HS := Lib.hid (rfNeed_any l hl w)
    have HX := Lib.hid (fun (W : World) (hW : Below w.heap.size w W) => h.moves (Moves.ofBelow (S := nobody) hW) (fun h => h))
    have hz := bs_size l
    have hd := bs_drop l (frNeedP l).1
    have ht := bs_take l (frNeedP l).1
    by_cases h0 : (frNeedP l).2 = 0
    · by_cases h2 : l.length < (frNeedP l).1
      · have hu : stUnit l = ([], 0, 4) := by unfold stUnit; rw [if_neg (by simpa using h0), if_pos h2]
        rw [hu, if_neg (by simp), if_pos rfl]
        have hm : (frNeedP l).1 ≤ 1000000 := by unfold frNeedP; (repeat' split) <;> simp only <;> omega
        rw [h0] at HS
        have HH := Lib.hid h
        have q : decide (l.length < (frNeedP l).1) = true := decide_eq_true h2
        clear h h0 hd ht hu h2
        simp only
        generalize (frNeedP l).1 = m at *
        generalize bs l = L at *
        generalize l.length = n at *
        subst hz
        go_enter Try.func14, Try.ntmps14
        go_wp2_with (go_at_call 43; (with_reducible refine HS.out.mono ?_); rintro r w1 ⟨rfl, b1⟩; have g0 := (HX.out _ b1).cell 0)
        go_ret3
        exact ⟨rfl, HX.out _ b1, Moves.ofBelow b1⟩
      · have hu : stUnit l = (l.take (frNeedP l).1, (frNeedP l).1, 0) := by unfold stUnit; rw [if_neg (by simpa using h0), if_neg h2]
        rw [hu, if_pos rfl]
        rw [h0] at HS
        have HP := Lib.hid (fun (W : World) (hW : Below w.heap.size w W) => YAt.put (u := .string (bs (l.drop (frNeedP l).1))) (v := .int .i64 0) h hW)
        have q : decide ((bs l).size < (frNeedP l).1) = false := decide_eq_false (by omega)
        clear h h0 hu
        simp only
        generalize bs (l.drop (frNeedP l).1) = D at *
        generalize bs (l.take (frNeedP l).1) = T at *
        generalize (frNeedP l).1 = m at *
        generalize bs l = L at *
        generalize l.length = n at *
        subst hz
        go_enter Try.func14, Try.ntmps14
        go_wp2_with (go_at_call 43; (with_reducible refine HS.out.mono ?_); rintro r w1 ⟨rfl, b1⟩; have g0 := (HX.out _ b1).cell 0; have k0 := (HX.out _ b1).frozen 0; have HP1 := Lib.hid (HP.out _ b1))
        go_ret3
        exact ⟨rfl, HP1.out.1, HP1.out.2.1⟩
    · have hu : stUnit l = ([], 0, (frNeedP l).2) := by unfold stUnit; rw [if_pos h0]
      rw [hu, if_neg h0]
      by_cases h4 : (frNeedP l).2 = 4
      · rw [if_pos h4]
        rw [h4] at HS
        have HH := Lib.hid h
        clear h h0 hd ht hu
        simp only
        generalize (frNeedP l).1 = m at *
        generalize bs l = L at *
        generalize l.length = n at *
        go_enter Try.func14, Try.ntmps14
        go_wp2_with (go_at_call 43; (with_reducible refine HS.out.mono ?_); rintro r w1 ⟨rfl, b1⟩; have g0 := (HX.out _ b1).cell 0)
        go_ret3
        exact ⟨rfl, HX.out _ b1, Moves.ofBelow b1⟩
      · rw [if_neg h4]
        have HP := Lib.hid (fun (W : World) (hW : Below w.heap.size w W) => YAt.put (u := .string ⟨#[]⟩) (v := .int .i64 ((frNeedP l).2 : Int)) h hW)
        have q1 : (((frNeedP l).2 : Int) == 0) = false := by rw [beq_eq_false_iff_ne]; omega
        have q2 : (((frNeedP l).2 : Int) != 0) = true := by rw [bne, q1]; rfl
        have q3 : (((frNeedP l).2 : Int) == 4) = false := by rw [beq_eq_false_iff_ne]; omega
        clear h h0 h4 hd ht hu
        simp only
        generalize (frNeedP l).1 = m at *
        generalize (frNeedP l).2 = c at *
        generalize bs l = L at *
        generalize l.length = n at *
        go_enter Try.func14, Try.ntmps14
        go_wp2_with (go_at_call 43; (with_reducible refine HS.out.mono ?_); rintro r w1 ⟨rfl, b1⟩; have g0 := (HX.out _ b1).cell 0; have k0 := (HX.out _ b1).frozen 0; have g1 := (HX.out _ b1).cell 1; have k1 := (HX.out _ b1).frozen 1; have HP1 := Lib.hid (HP.out _ b1))
        go_ret3
        exact ⟨rfl, HP1.out.2.2.1, HP1.out.2.2.2⟩
  · rw [if_pos he]
    obtain ⟨q1, q2⟩ := stNot he
    have HH := Lib.hid h
    clear he h
    generalize bs l = L at *
    have d1 : w.drew.cell? ⟨Y, 1, none⟩ = _ := c1
    go_enter Try.func14, Try.ntmps14
    go_wp2_with fail
    go_region
    go_wp2_with fail
    go_ret3
    exact ⟨rfl, HH.out, (Moves.refl _ _).drew⟩
end Go.Proofs.Ytlalkpgipenkaaa
