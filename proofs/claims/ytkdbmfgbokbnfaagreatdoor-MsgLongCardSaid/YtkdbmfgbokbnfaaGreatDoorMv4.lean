/- What is written of a value: extensions, names; any value. -/
import Derived.Test.YtkdbmfgbokbnfaaGreatDoorMv3
import Derived.Test.YtkdbmfgbokbnfaaGreatDoorAppM
namespace Go.Proofs.YtkdbmfgbokbnfaaGreatDoor
open Go.RowKit

theorem wpList_appB {ops : Array Oper} {rest : List Oper} {o : Oper} {a : Act} {w : World} {Q : Exit → Act → World → Prop} (hgd : o.guard = none) (sl x : Operand)
    (ho : o.op = .call { callee := .builtin .append, args := #[sl, x], argTypes := #[44, 9] }) (hty : o.type = 44) {base : Nat} {v : Value} {l : List UInt8} (hs : a.eval sl = v) (hown : OwnB w base v l) (s : List UInt8) (hx : a.eval x = .string (bs s))
    (hn : l.length + s.length ≤ 1000000000) (hb : base ≤ w.heap.size)
    (h : ∀ g c w', OwnB w' base (.slice (some ⟨g, 0, none⟩) (l ++ s).length c) (l ++ s) → w.grownBy w' v.ownBlock → wpList Tryz.prog ops Q rest (a.put o.dst (.slice (some ⟨g, 0, none⟩) (l ++ s).length c)) w') : wpList Tryz.prog ops Q (o :: rest) a w := by
  refine wpList_plain hgd fun K hK => ?_
  obtain ⟨v', w', hr, h2, h3⟩ := append_own hown s hn hb
  obtain ⟨g, c, rfl, _, _⟩ := h2.block
  unfold Oper.wp execOp
  simp only [ho, hty, resolve, invoke, builtin, Sem.run_bind, Sem.run_pure, Result.andThen_ok, List.map_toArray, List.map_cons, List.map_nil, hs, hx, hr]
  exact hK _ _ (h g c w' h2 h3)

theorem OwnB.lower {w : World} {base base' : Nat} {v : Value} {l : List UInt8} (h : OwnB w base v l) (hb : base' ≤ base) : OwnB w base' v l := by
  obtain ⟨g, cap, cur, m, rfl, hb', rest⟩ := h
  exact ⟨g, cap, cur, m, rfl, by omega, rest⟩
theorem cnts_len (M : Nat) : ∀ l : List (List UInt8), (∀ x ∈ l, x.length ≤ M) → ((l.map cnt).flatten).length ≤ l.length * (M + 4)
  | [], _ => by simp
  | x :: l, h => by
    have h1 := h x (by simp)
    have h2 := cnts_len M l fun y hy => h y (by simp [hy])
    have h3 : (cnt x).length = x.length + 4 := by simp [cnt, pack4]
    rw [List.map_cons, List.flatten_cons, List.length_append, h3, List.length_cons, Nat.add_mul, Nat.one_mul]
    omega
theorem cnts_snoc {l : List (List UInt8)} {k : Nat} {x : List UInt8} (h : l[k]? = some x) (P : List UInt8) : P ++ ((l.take k).map cnt).flatten ++ cnt x = P ++ ((l.take (k + 1)).map cnt).flatten := by
  obtain ⟨hk, rfl⟩ := List.getElem?_eq_some_iff.1 h
  rw [List.take_succ_eq_append_getElem hk, List.map_append, List.flatten_append, List.append_assoc, List.map_cons, List.map_nil, List.flatten_cons, List.flatten_nil, List.append_nil]

def extsP (l : List (List UInt8)) : Wrote := if l.length % 2 ≠ 0 then ([], 3) else if 16 < l.length then ([], 2) else (pack4 (l.length / 2) ++ (l.map cnt).flatten, 0)

set_option maxHeartbeats 1000000 in
set_option maxRecDepth 100000 in
theorem exts_any {w : World} {v : Value} {l : List (List UInt8)} (hv : TextsAt w v (l.map bs)) (hl : l.length ≤ 1000000) (hs : ∀ x ∈ l, x.length ≤ 1000000) :
    Calls Tryz.prog 61 #[v] w fun e w' => e = wroteV (extsP l) ∧ Below w.heap.size w w' := by
  unfold wroteV
  obtain ⟨ao, cap, rfl, hc⟩ := hv
  rw [List.length_map] at *
  have q2 : ((l.length : Int) % 2 != 0) = !decide (l.length % 2 = 0) := by
    rw [show (l.length : Int) % 2 = ((l.length % 2 : Nat) : Int) by omega]
    by_cases h : l.length % 2 = 0
    · simp [h]
    · rw [decide_eq_false h, bne_iff_ne.2 (by omega)]; rfl
  by_cases h2 : l.length % 2 = 0
  · rw [decide_eq_true h2, Bool.not_true] at q2
    by_cases h16 : 16 < l.length
    · have hw : extsP l = ([], 2) := by unfold extsP; rw [if_neg (by omega), if_pos h16]
      rw [hw]
      have q16 : (l.length : Int) > 16 := by omega
      clear hw hc hs h2 h16
      generalize l.length = m at *
      go_enter Tryz.func61, Tryz.ntmps61
      go_wp2
      go_ret2
      exact ⟨rfl, Below.refl _ _⟩
    · have hw : extsP l = (pack4 (l.length / 2) ++ (l.map cnt).flatten, 0) := by unfold extsP; rw [if_neg (by omega), if_neg h16]
      rw [hw]
      have q16 : ¬ (l.length : Int) > 16 := by omega
      obtain ⟨d, hd⟩ : ∃ d, d = l.length / 2 := ⟨_, rfl⟩
      have hd8 : d ≤ 8 := by omega
      have hdiv : (l.length : Int) / 2 = (d : Int) := by omega
      have hU : Hid (∀ W : World, Calls Tryz.prog 57 #[.int .u32 ((l.length : Int) / 2)] W fun e w' => e = .returned (.string (bs (pack4 d))) ∧ Below W.heap.size W w') := fun W => by rw [hdiv]; exact U32_any d (by omega) W
      rw [← hd]
      have HC : Hid (∀ W, Below w.heap.size w W → ∀ k x, l[k]? = some x → ∃ b off, ao = some ⟨b, off, none⟩ ∧ W.cell? ⟨b, off + k, none⟩ = some (.string (bs x))) := fun W hb k x hk => by
        obtain ⟨b, off, rfl, hbl, hcc⟩ := hc (by intro h; simp at h; subst h; simp at hk)
        exact ⟨b, off, rfl, (hb.cell (p := ⟨b, off + k, none⟩) hbl).trans (hcc k (bs x) (by simp [hk]))⟩
      have HS := Lib.hid hs
      have HL : Hid (∃ m, m = l.length) := ⟨_, rfl⟩
      obtain ⟨m, hm⟩ := HL.out
      have hm16 : m ≤ 16 := by omega
      have HM := Lib.hid hm
      have hC4 := Lib.hid (fun W => conv_own W (pack4 d) (by simp [pack4]))
      have HP4 : Hid ((pack4 d).length = 4) := rfl
      rw [← hm] at q2 q16 hU ⊢
      clear hw hc hs h2 h16 hd hm hl HL hdiv
      generalize pack4 d = P4 at *
      go_enter Tryz.func61, Tryz.ntmps61
      go_wp2_with (go_at_call 57; with_reducible refine (hU.out _).mono ?_; rintro e w1 ⟨rfl, b1⟩; obtain ⟨c1, W2, hcv, hown, bW, hsz⟩ := hC4.out w1)
      have HBw : Hid (Below w.heap.size w W2) := b1.trans (bW.mono b1.size)
      have HOw := Lib.hid hown
      have hgw : w.heap.size ≤ w1.heap.size := b1.size
      clear hcv hown bW b1 hU hC4
      generalize w1.heap.size = G at *
      go_loopw [4, 24] (fun f i wr => ∃ k g c, k ≤ m ∧ i = .int .i64 ((k : Nat) : Int) ∧ f = .slice (some ⟨g, 0, none⟩) (P4 ++ ((l.take k).map cnt).flatten).length c ∧ OwnB wr w.heap.size f (P4 ++ ((l.take k).map cnt).flatten) ∧ Below w.heap.size w wr) (fun _ i _ => m - (intOf i).toNat)
      case atStart => exact ⟨0, G, c1, Nat.zero_le _, rfl, by simp, by simpa using HOw.out.lower hgw, HBw.out⟩
      case round =>
        obtain ⟨k, g, c, hk, rfl, rfl, how, hbel⟩ := hrel
        have HOwn := Lib.hid how
        by_cases hlt : k < m
        · obtain ⟨x, hx⟩ : ∃ x, l[k]? = some x := ⟨_, List.getElem?_eq_getElem (by have := HM.out; omega)⟩
          obtain ⟨b, off, rfl, y⟩ := HC.out wr hbel k x hx
          have hxl := HS.out x (List.mem_of_getElem? hx)
          have HT := Lib.hid (fun W => wText_any x hxl W)
          have HX := Lib.hid (cnts_snoc hx P4)
          have HLn : Hid ((P4 ++ ((l.take k).map cnt).flatten).length + (cnt x).length ≤ 1000000000) := by
            have h1 := cnts_len 1000000 (l.take k) fun y hy => HS.out y (List.mem_of_mem_take hy)
            have h2 : (cnt x).length = x.length + 4 := by simp [cnt, pack4]
            have h3 : (l.take k).length ≤ 16 := by rw [List.length_take]; omega
            have h4 := HP4.out
            show _ ≤ _
            rw [List.length_append, h2, h4]
            have h5 := Nat.mul_le_mul_right (1000000 + 4) h3
            omega
          have HBe := Lib.hid hbel
          clear how hbel hx
          generalize P4 ++ ((l.take k).map cnt).flatten = Q at *
          go_wp2_with (first
            | (go_at_call 58
               with_reducible refine (HT.out _).mono ?_
               rintro e w3 ⟨rfl, b3⟩
               have how3 := HOwn.out.below b3
               have hb3 := HBe.out.trans (b3.mono HBe.out.size))
            | (at_builtin
               refine wpList_appB (v := .slice (some ⟨g, 0, none⟩) Q.length c) rfl (.tmp 28) (.tmp 30) rfl rfl rfl how3 (cnt x) rfl HLn.out hb3.size ?_
               intro g4 c4 w4 how4 hg4))
          have hb4 : Below w.heap.size w w4 := hb3.trans ((((Moves.refl (fun k => k = g) w3).grown hg4 fun k hk => .inl (by simpa [Value.ownBlock] using hk.symm))).below hb3.size fun k hk => by
            obtain ⟨g', c', e1, e2, _⟩ := how3.block
            injection e1 with e1
            injection e1 with e1
            injection e1 with e1
            omega)
          have HLE : Hid (Q.length + (cnt x).length = (P4 ++ ((l.take (k + 1)).map cnt).flatten).length) := by
            show _ = _
            rw [← HX.out, List.length_append]
          rw [HX.out] at how4
          go_roundw
          case rel => exact ⟨k + 1, g4, c4, by omega, by go_num, by rw [HLE.out], by rw [HLE.out]; exact how4, hb4⟩
          case measure => simp [intOf]; omega
        · have hkm : k = m := by omega
          subst hkm
          have HTk : Hid (l.take k = l) := List.take_of_length_le (by have := HM.out; omega)
          have hst := string_own how
          rw [HTk.out] at hst
          rw [HTk.out]
          have HBe := Lib.hid hbel
          clear how hbel hlt
          generalize hQ : P4 ++ (l.map cnt).flatten = Q at *
          have HQ := Lib.hid hQ
          clear hQ
          go_wp2_with fail
          go_ret2
          exact ⟨by rw [HQ.out]; rfl, HBe.out⟩
  · rw [decide_eq_false h2, Bool.not_false] at q2
    have hw : extsP l = ([], 3) := by unfold extsP; rw [if_pos (by omega)]
    rw [hw]
    clear hw hc hs h2
    generalize l.length = m at *
    go_enter Tryz.func61, Tryz.ntmps61
    go_wp2
    go_ret2
    exact ⟨rfl, Below.refl _ _⟩

def wrList (k : Int) (l : List (List UInt8)) : Wrote := if k = 101 then extsP l else if checkP l = 0 then (cnt (joinL l), 0) else ([], checkP l)
end Go.Proofs.YtkdbmfgbokbnfaaGreatDoor
