/- within; the document's text of a fault. -/
import Derived.Test.YtambeipbpemlkaaDoorFlt9
namespace Go.Proofs.YtambeipbpemlkaaDoor
open Go.RowKit

theorem fAt_none {w : World} (x : ByteArray) : Calls Tryd.prog 21 #[.string x, .nilIface] w fun r w' => r = .returned .nilIface ∧ w' = w := fAt_nil x w

set_option maxHeartbeats 2000000 in
set_option maxRecDepth 100000 in
theorem within_any {w : World} {v : Value} {l : List ByteArray} (h : TextsAt w v l) (h1 : l ≠ []) (h20 : l.length ≤ 20) (e : Int) (he : e ≠ 0) :
    Calls Tryd.prog 9 #[v, .int .i64 e] w fun r w' => ∃ b, r = .returned (.iface 37 (.pointer (some ⟨b, 0, none⟩))) ∧ ErrAt w' (.iface 37 (.pointer (some ⟨b, 0, none⟩))) l (some e) ∧ Below w.heap.size w w' := by
  obtain ⟨ao, cap, rfl, hc⟩ := h
  obtain ⟨bk, off, rfl, hb, hcell⟩ := hc h1
  obtain ⟨m, hm⟩ : ∃ m, l.length = m + 1 := ⟨l.length - 1, by have := List.length_pos_iff.2 h1; omega⟩
  obtain ⟨x0, hx0⟩ : ∃ x, l[m]? = some x := ⟨_, List.getElem?_eq_getElem (by omega)⟩
  have c0 := hcell m x0 hx0
  have hd0 : l.drop m = [x0] := by
    have hx : l[m]'(by omega) = x0 := by rw [List.getElem?_eq_getElem (by omega)] at hx0; exact Option.some.inj hx0
    rw [List.drop_eq_getElem_cons (by omega), hx, List.drop_of_length_le (by omega)]
  have HO : Hid (Calls Tryd.prog 33 #[.string x0, .int .i64 e] w fun r w' => ∃ b, r = .returned (.iface 37 (.pointer (some ⟨b, 0, none⟩))) ∧ ErrAt w' (.iface 37 (.pointer (some ⟨b, 0, none⟩))) (l.drop m) (some e) ∧ Below w.heap.size w w') := by
    show Calls _ _ _ _ _
    rw [hd0]; exact fOf_ptr x0 e he w
  have HA : Hid (∀ (W : World) (b : Nat) (x : ByteArray) (q : List ByteArray), ErrAt W (.iface 37 (.pointer (some ⟨b, 0, none⟩))) q (some e) → Calls Tryd.prog 21 #[.string x, .iface 37 (.pointer (some ⟨b, 0, none⟩))] W fun r w' => ∃ b, r = .returned (.iface 37 (.pointer (some ⟨b, 0, none⟩))) ∧ ErrAt w' (.iface 37 (.pointer (some ⟨b, 0, none⟩))) (x :: q) (some e) ∧ Below W.heap.size W w') := fun W b x q h => fAt_ptr h x
  have HC := Lib.hid hcell
  have HM := Lib.hid hm
  have w1 : IntKind.i64.wrap (((m + 1 : Nat) : Int) - 1) = (m : Int) := by rw [IntWalk.i64_in _ (by omega)]; omega
  have w2 : IntKind.i64.wrap (((m + 1 : Nat) : Int) - 2) = (m : Int) - 1 := by rw [IntWalk.i64_in _ (by omega)]; omega
  have w3 : (((m + 1 : Nat) : Int) - 1) = (m : Int) := by omega
  have w4 : (((m + 1 : Nat) : Int) - 2) = (m : Int) - 1 := by omega
  have hml : m ≤ 20 := by omega
  rw [hm]
  clear hcell hc h1 hx0 hd0 hm h20
  go_enter Tryd.func9, Tryd.ntmps9
  go_wp2_with (go_at_call 33; with_reducible refine HO.out.mono ?_; rintro r wa ⟨b0, rfl, e1, b1⟩)
  go_loopw [5, 6] (fun u i wr => ∃ (k : Nat) (b : Nat), k ≤ m ∧ i = .int .i64 ((k : Int) - 1) ∧ u = .iface 37 (.pointer (some ⟨b, 0, none⟩)) ∧ ErrAt wr (.iface 37 (.pointer (some ⟨b, 0, none⟩))) (l.drop k) (some e) ∧ Below w.heap.size w wr) (fun _ i _ => (intOf i + 1).toNat)
  case atStart => exact ⟨m, b0, Nat.le_refl _, by congr 1, rfl, e1, b1⟩
  case round =>
    obtain ⟨k, b, hk, rfl, rfl, he1, hbel⟩ := hrel
    cases k with
    | zero =>
      have hd : l.drop 0 = l := rfl
      rw [hd] at he1
      have q0 : decide (((0 : Nat) : Int) - 1 ≥ 0) = false := by decide
      go_wp2_with fail
      go_ret
      exact ⟨b, rfl, he1, hbel⟩
    | succ j =>
      have hj : (((j + 1 : Nat) : Int) - 1) = (j : Int) := by omega
      rw [hj]
      have hjl : j < l.length := by have := HM.out; omega
      obtain ⟨x, hx⟩ : ∃ x, l[j]? = some x := ⟨_, List.getElem?_eq_getElem hjl⟩
      have cj : wr.cell? ⟨bk, off + j, none⟩ = some (.string x) := (hbel.cell (p := ⟨bk, off + j, none⟩) hb).trans (HC.out j x hx)
      have hdj : Hid (l.drop j = x :: l.drop (j + 1)) := by
        have hxx : l[j] = x := by rw [List.getElem?_eq_getElem hjl] at hx; exact Option.some.inj hx
        show _ = _
        rw [List.drop_eq_getElem_cons hjl, hxx]
      have HE := Lib.hid he1
      clear hx he1 hj
      have w5 : IntKind.i64.wrap ((j : Int) - 1) = (j : Int) - 1 := IntWalk.i64_in _ (by omega)
      have q0 : decide ((j : Int) ≥ 0) = true := decide_eq_true (by omega)
      have q1 : (0 : Int) ≤ (j : Int) := by omega
      have q2 : (j : Int) < ((m + 1 : Nat) : Int) := by omega
      go_wp2_with (go_at_call 21; with_reducible refine (HA.out _ _ _ _ HE.out).mono ?_; rintro r wb ⟨b', rfl, e2, b2⟩)
      go_roundw
      case rel => exact ⟨j, b', by omega, rfl, rfl, by rw [hdj.out]; exact e2, hbel.trans (b2.mono hbel.size)⟩
      case measure => simp [intOf]

/-! ### The document's text -/
def preP (l : List ByteArray) : ByteArray := l.foldl (fun s x => s ++ x ++ ⟨#[58, 32]⟩) ⟨#[]⟩
theorem preP_snoc (l : List ByteArray) (x : ByteArray) : preP (l ++ [x]) = preP l ++ x ++ ⟨#[58, 32]⟩ := by simp [preP]
theorem preP_size : ∀ l : List ByteArray, (∀ x ∈ l, x.size ≤ 50) → (preP l).size ≤ 52 * l.length := by
  intro l
  unfold preP
  suffices ∀ s : ByteArray, (∀ x ∈ l, x.size ≤ 50) → (l.foldl (fun s x => s ++ x ++ ⟨#[58, 32]⟩) s).size ≤ s.size + 52 * l.length from fun h => by
    have h0 : ByteArray.size ⟨#[]⟩ = 0 := rfl
    have := this ⟨#[]⟩ h
    omega
  induction l with
  | nil => intro s _; simp
  | cons x l ih =>
    intro s h
    have hx := h x (by simp)
    have := ih (s ++ x ++ ⟨#[58, 32]⟩) (fun y hy => h y (by simp [hy]))
    rw [ByteArray.size_append, ByteArray.size_append] at this
    have e2 : ByteArray.size ⟨#[58, 32]⟩ = 2 := rfl
    rw [e2] at this
    rw [List.foldl_cons, List.length_cons]
    omega
theorem preP_list (l : List ByteArray) : (preP l).data.toList = (l.map fun x => x.data.toList ++ [58, 32]).flatten := by
  unfold preP
  suffices ∀ s : ByteArray, (l.foldl (fun s x => s ++ x ++ ⟨#[58, 32]⟩) s).data.toList = s.data.toList ++ (l.map fun x => x.data.toList ++ [58, 32]).flatten from by simpa using this ⟨#[]⟩
  induction l with
  | nil => intro s; simp
  | cons x l ih =>
    intro s
    rw [List.foldl_cons, ih]
    simp [ByteArray.data_append]
theorem join_last : ∀ (l : List (List UInt8)) (y : List UInt8), Lib.join (l ++ [y]) [58, 32] = (l.map fun x => x ++ [58, 32]).flatten ++ y
  | [], y => by simp [Lib.join]
  | [x], y => by simp [Lib.join, List.intercalate_cons_cons]
  | x :: z :: l, y => by
    have := join_last (z :: l) y
    simp only [List.cons_append] at this ⊢
    have e : Lib.join (x :: z :: (l ++ [y])) [58, 32] = x ++ [58, 32] ++ Lib.join (z :: (l ++ [y])) [58, 32] := by
      simp [Lib.join, List.intercalate_cons_cons]
    rw [e, this]
    simp
theorem tell_pre (l : List ByteArray) (y : ByteArray) : joinP (l ++ [y]) = preP l ++ y := by
  have h : (joinP (l ++ [y])).data.toList = (preP l ++ y).data.toList := by
    rw [ByteArray.data_append, Array.toList_append, preP_list]
    simp only [joinP, List.map_append, List.map_cons, List.map_nil]
    rw [join_last]
    simp [List.map_map, Function.comp_def]
  cases h1 : joinP (l ++ [y])
  cases h2 : preP l ++ y
  rw [h1, h2] at h
  simpa using h

theorem tellP_pre (l : List ByteArray) (e : Int) : tellP l (some e) = preP l ++ nameP e := tell_pre l (nameP e)

set_option maxHeartbeats 4000000 in
set_option maxRecDepth 100000 in
theorem ref5Text_any {w : World} {v : Value} {l : List ByteArray} (h : TextsAt w v l) (h20 : l.length ≤ 20) (hs : ∀ x ∈ l, x.size ≤ 50) (e : Int) :
    Calls Tryd.prog 16 #[v, .int .i64 e] w fun r w' => r = .returned (.string (tellP l (some e))) ∧ Below w.heap.size w w' := by
  rw [tellP_pre]
  obtain ⟨RES, hRES⟩ : ∃ R, R = preP l ++ nameP e := ⟨_, rfl⟩
  rw [← hRES]
  have HRES := Lib.hid hRES
  clear hRES
  have hnl := nameP_len e
  have hps := preP_size l hs
  obtain ⟨ao, cap, rfl, hc⟩ := h
  have HC := Lib.hid hc
  have HS := Lib.hid hs
  have HN := Lib.hid (Holds.new w 9 ((namesP.map Value.string).toArray))
  have HB : Hid (Below w.heap.size w (w.alloc (.cells (namesP.map Value.string).toArray 9))) := (Below.refl _ _).alloc (Nat.le_refl _) _
  clear hc hs
  go_enter Tryd.func16, Tryd.ntmps16
  go_wp2_with fail
  change Code.wp _ _ _ _ (w.alloc (.cells (namesP.map Value.string).toArray 9))
  generalize w.alloc (.cells (namesP.map Value.string).toArray 9) = W0 at *
  go_loopw [6, 7] (fun s i wr => ∃ k : Nat, k ≤ l.length ∧ s = .string (preP (l.take k)) ∧ i = .int .i64 k ∧ wr = W0) (fun _ i _ => l.length - (intOf i).toNat)
  case atStart => exact ⟨0, Nat.zero_le _, rfl, rfl, rfl⟩
  case round =>
    obtain ⟨k, hk, rfl, rfl, rfl⟩ := hrel
    by_cases hlt : k < l.length
    · obtain ⟨bk, off, rfl, hb, hcell⟩ := HC.out (by intro h; simp [h] at hlt)
      obtain ⟨x, hx⟩ : ∃ x, x = l[k] := ⟨_, rfl⟩
      have c1 : wr.cell? ⟨bk, off + k, none⟩ = some (.string x) := (HB.out.cell (p := ⟨bk, off + k, none⟩) hb).trans (hcell k x (by simp [hlt, hx]))
      have hpk := preP_size (l.take k) (fun y hy => HS.out y (List.mem_of_mem_take hy))
      have hlk : (l.take k).length ≤ 20 := by rw [List.length_take]; omega
      have hxs := HS.out x (by rw [hx]; exact List.getElem_mem hlt)
      have HX : Hid (preP (l.take (k + 1)) = preP (l.take k) ++ x ++ ⟨#[58, 32]⟩) := by
        show _ = _
        rw [List.take_succ_eq_append_getElem hlt, preP_snoc, hx]
      generalize preP (l.take k) = S at *
      have g1 : ∀ W : World, (Op.stringOp .add S x).run Tryd.prog W = .ok (.string (S ++ x)) W := fun W => run_string_add_sum (P := Tryd.prog) W S x (by omega)
      have g2 : ∀ W : World, (Op.stringOp .add (S ++ x) ⟨#[58, 32]⟩).run Tryd.prog W = .ok (.string (S ++ x ++ ⟨#[58, 32]⟩)) W := fun W => run_string_add_sum (P := Tryd.prog) W (S ++ x) ⟨#[58, 32]⟩ (by rw [ByteArray.size_append]; show S.size + x.size + 2 ≤ _; omega)
      clear hcell hx hpk hlk hxs
      generalize S ++ x ++ ⟨#[58, 32]⟩ = S2 at *
      generalize S ++ x = S1 at *
      go_wp2_with fail
      go_roundw
      case rel => exact ⟨k + 1, by omega, by rw [HX.out], by go_num, trivial⟩
      case measure => simp [intOf]; omega
    · have hkl : k = l.length := by omega
      subst hkl
      rw [List.take_length]
      have g1 : ∀ W : World, (Op.stringOp .add (preP l) (nameP e)).run Tryd.prog W = .ok (.string (preP l ++ nameP e)) W := fun W => run_string_add_sum (P := Tryd.prog) W (preP l) (nameP e) (by omega)
      clear hlt
      rcases Int.lt_or_le e 0 with h0 | h0
      · have hn : nameP e = ⟨#[117, 110, 107, 110, 111, 119, 110]⟩ := nameP_out (.inl h0)
        have q1 : decide (e < 0) = true := decide_eq_true h0
        have HRF : Hid (RES = preP l ++ ⟨#[117, 110, 107, 110, 111, 119, 110]⟩) := by rw [← hn]; exact HRES.out
        rw [hn] at g1
        clear hps hnl h0 hn HRES
        generalize preP l ++ ⟨#[117, 110, 107, 110, 111, 119, 110]⟩ = S2 at *
        generalize preP l = S at *
        go_wp2_with fail
        go_ret
        exact ⟨by rw [HRF.out]; rfl, HB.out⟩
      · rcases Int.lt_or_le e 15 with h1 | h1
        · obtain ⟨m, rfl⟩ : ∃ m : Nat, e = m := ⟨e.toNat, by omega⟩
          have hm : m < 15 := by omega
          have hnm : (namesP.map Value.string)[m]? = some (.string (nameP (m : Int))) := by
            have hk : m < namesP.length := hm
            rw [List.getElem?_map, List.getElem?_eq_getElem hk]
            unfold nameP
            rw [if_pos (by omega), Int.toNat_natCast, List.getD_eq_getElem?_getD, List.getElem?_eq_getElem hk]
            rfl
          have c1 : wr.cell? ⟨w.heap.size, 0 + m, none⟩ = some (.string (nameP (m : Int))) := by
            rw [Nat.zero_add, Holds.cell HN.out m]
            simpa using hnm
          have c2 : wr.cell? ⟨w.heap.size, m, none⟩ = some (.string (nameP (m : Int))) := by rw [Nat.zero_add] at c1; exact c1
          have q1 : decide ((m : Int) < 0) = false := decide_eq_false (by omega)
          have q2 : decide ((m : Int) ≥ 15) = false := decide_eq_false (by omega)
          have HRF := HRES
          clear hnm hps hnl h0 h1 HRES
          generalize preP l ++ nameP (m : Int) = S2 at *
          generalize preP l = S at *
          generalize nameP (m : Int) = X at *
          go_wp2_with fail
          go_ret
          exact ⟨by rw [HRF.out]; rfl, HB.out⟩
        · have hn : nameP e = ⟨#[117, 110, 107, 110, 111, 119, 110]⟩ := nameP_out (.inr h1)
          have q1 : decide (e < 0) = false := decide_eq_false (by omega)
          have q2 : decide (e ≥ 15) = true := decide_eq_true h1
          have HRF : Hid (RES = preP l ++ ⟨#[117, 110, 107, 110, 111, 119, 110]⟩) := by rw [← hn]; exact HRES.out
          rw [hn] at g1
          clear hps hnl h0 h1 hn HRES
          generalize preP l ++ ⟨#[117, 110, 107, 110, 111, 119, 110]⟩ = S2 at *
          generalize preP l = S at *
          go_wp2_with fail
          go_ret
          exact ⟨by rw [HRF.out]; rfl, HB.out⟩
end Go.Proofs.YtambeipbpemlkaaDoor
