/- Part 44 of what the statement wants. -/
import Derived.Deep.QuietTactic
import Derived.BigQuiet
import Derived.Test.YtkmhdepohcncaaaGreatDoorPk27
namespace Go.Proofs.YtkmhdepohcncaaaGreatDoor
open Go.RowKit

theorem qB_byte (b : UInt8) (w : World) : Calls Tryz.prog 69 #[.int .u8 (b.toNat : Int)] w fun e w' => e = .returned (.string (bs [b])) ∧ Below w.heap.size w w' := by
  have hcv := run_string_new w [b] (by simp) #[.int .u8 (b.toNat : Int)] (by simp [byteCells])
  simp only [List.length_cons, List.length_nil] at hcv
  generalize b.toNat = n at *
  generalize bs [b] = B at *
  go_enter Tryz.func69, Tryz.ntmps69
  go_wp2
  go_ret
  exact ⟨rfl, (Below.refl _ _).alloc (Nat.le_refl _) _⟩
theorem qB_one (w : World) : Calls Tryz.prog 69 #[.int .u8 1] w fun e w' => e = .returned (.string (bs [1])) ∧ Below w.heap.size w w' := qB_byte 1 w
theorem qBl_any (x : Bool) (w : World) : Calls Tryz.prog 168 #[.bool x] w fun e w' => e = .returned (.string (bs (boolL x))) ∧ Below w.heap.size w w' := by
  cases x with
  | true =>
    go_enter Tryz.func168, Tryz.ntmps168
    go_wp2_with (go_at_call 69; refine (qB_one _).mono ?_; rintro e w1 ⟨rfl, hb⟩)
    go_ret
    exact ⟨rfl, hb⟩
  | false =>
    go_enter Tryz.func168, Tryz.ntmps168
    go_wp2_with (go_at_call 69; refine (qB_zero _).mono ?_; rintro e w1 ⟨rfl, hb⟩)
    go_ret
    exact ⟨rfl, hb⟩

def plainQ (x : FieldR) : Bool :=
  if x.kind.toNat = 98 ∨ x.kind.toNat = 117 then x.s.isEmpty && x.l.isEmpty
  else if x.kind.toNat = 110 ∨ x.kind.toNat = 101 then decide (x.n = 0) && x.s.isEmpty
  else decide (x.n = 0) && x.l.isEmpty

set_option maxRecDepth 100000 in
theorem plain_any {x : FieldR} {v : Value} {w : World} (hv : TextsAt w v (x.l.map bs)) (hs : x.s.length ≤ 1000000) :
    Calls Tryz.prog 167 #[fieldV x v] w fun e w' => e = .returned (.bool (plainQ x)) ∧ Below w.heap.size w w' := by
  obtain ⟨ao, cap, rfl, _⟩ := hv
  rw [List.length_map]
  obtain ⟨kd, n, s, l⟩ := x
  unfold fieldV plainQ
  simp only at *
  have q4 : (n == 0) = decide (n = 0) := by by_cases h : n = 0 <;> simp [h]
  have q5 : ((s.length : Int) == 0) = s.isEmpty := by cases s with
    | nil => rfl
    | cons a r => simp; omega
  have q6 : ((l.length : Int) == 0) = l.isEmpty := by cases l with
    | nil => rfl
    | cons a r => simp; omega
  have hsz := bs_size s
  have each : ∀ j : Nat, kd.toNat = j ∨ ((kd.toNat : Int) == (j : Int)) = false := fun j => by
    by_cases h : kd.toNat = j
    · exact .inl h
    · exact .inr (by rw [beq_eq_false_iff_ne]; omega)
  generalize decide (n = 0) = c4 at *
  generalize s.isEmpty = c5 at *
  generalize l.isEmpty = c6 at *
  generalize bs s = S at *
  generalize l.length = m at *
  generalize s.length = sl at *
  generalize kd.toNat = kn at *
  rcases each 98 with rfl | h1
  · rw [if_pos (.inl rfl)]
    clear each
    go_enter Tryz.func167, Tryz.ntmps167
    go_wp2
    all_goals
      go_ret
      exact ⟨by simp_all, (Below.refl _ _).alloc (Nat.le_refl _) _⟩
  rcases each 117 with rfl | h2
  · rw [if_pos (.inr rfl)]
    clear each
    go_enter Tryz.func167, Tryz.ntmps167
    go_wp2
    all_goals
      go_ret
      exact ⟨by simp_all, (Below.refl _ _).alloc (Nat.le_refl _) _⟩
  have g1 : kn ≠ 98 := by rintro rfl; simp at h1
  have g2 : kn ≠ 117 := by rintro rfl; simp at h2
  rw [if_neg (by omega)]
  rcases each 110 with rfl | h3
  · rw [if_pos (.inl rfl)]
    clear each
    go_enter Tryz.func167, Tryz.ntmps167
    go_wp2
    all_goals
      go_ret
      exact ⟨by simp_all, (Below.refl _ _).alloc (Nat.le_refl _) _⟩
  rcases each 101 with rfl | h4
  · rw [if_pos (.inr rfl)]
    clear each
    go_enter Tryz.func167, Tryz.ntmps167
    go_wp2
    all_goals
      go_ret
      exact ⟨by simp_all, (Below.refl _ _).alloc (Nat.le_refl _) _⟩
  have g3 : kn ≠ 110 := by rintro rfl; simp at h3
  have g4 : kn ≠ 101 := by rintro rfl; simp at h4
  rw [if_neg (by omega)]
  clear each g1 g2 g3 g4
  have z1 : ((kn : Int) == 98) = false := h1
  have z2 : ((kn : Int) == 117) = false := h2
  have z3 : ((kn : Int) == 110) = false := h3
  have z4 : ((kn : Int) == 101) = false := h4
  clear h1 h2 h3 h4
  go_enter Tryz.func167, Tryz.ntmps167
  go_wp2
  all_goals
    go_ret
    exact ⟨by simp_all, (Below.refl _ _).alloc (Nat.le_refl _) _⟩
end Go.Proofs.YtkmhdepohcncaaaGreatDoor

namespace Go.Proofs.YtkmhdepohcncaaaGreatDoor
open Go.RowKit

theorem add_str (a b : List UInt8) (h : a.length + b.length ≤ 1000000000) : ∀ W : World, (Op.stringOp .add (bs a) (bs b)).run Tryz.prog W = .ok (.string (bs (a ++ b))) W := fun W => by
  have := run_string_add_sum (P := Tryz.prog) W (bs a) (bs b) (by rw [bs_size, bs_size]; omega)
  rw [bs_append] at this
  exact this

set_option maxHeartbeats 1000000 in
set_option maxRecDepth 100000 in
theorem qexts_any {w : World} {v : Value} {l : List (List UInt8)} (hv : TextsAt w v (l.map bs)) (hl : l.length ≤ 1000000) (hs : ∀ x ∈ l, x.length ≤ 1000000) :
    Calls Tryz.prog 173 #[v] w fun e w' => e = wroteV (extsP l) ∧ Below w.heap.size w w' := by
  unfold wroteV
  obtain ⟨ao, cap, rfl, hc⟩ := hv
  rw [List.length_map] at *
  have q2 : ((l.length : Int) % 2 == 1) = !decide (l.length % 2 = 0) := by
    rw [show (l.length : Int) % 2 = ((l.length % 2 : Nat) : Int) by omega]
    by_cases h : l.length % 2 = 0
    · simp [h]
    · rw [decide_eq_false h, beq_iff_eq.2 (by omega)]; rfl
  by_cases h2 : l.length % 2 = 0
  · rw [decide_eq_true h2, Bool.not_true] at q2
    by_cases h16 : 16 < l.length
    · have hw : extsP l = ([], 2) := by unfold extsP; rw [if_neg (by omega), if_pos h16]
      rw [hw]
      have q16 : (l.length : Int) > 16 := by omega
      clear hw hc hs h2 h16
      generalize l.length = m at *
      go_enter Tryz.func173, Tryz.ntmps173
      go_wp2
      go_ret2
      exact ⟨rfl, Below.refl _ _⟩
    · have hw : extsP l = (pack4 (l.length / 2) ++ (l.map cnt).flatten, 0) := by unfold extsP; rw [if_neg (by omega), if_neg h16]
      rw [hw]
      have q16 : ¬ (l.length : Int) > 16 := by omega
      obtain ⟨d, hd⟩ : ∃ d, d = l.length / 2 := ⟨_, rfl⟩
      have hd8 : d ≤ 8 := by omega
      have hdiv : (l.length : Int) / 2 = (d : Int) := by omega
      have hU : Hid (∀ W : World, Calls Tryz.prog 68 #[.int .i64 ((l.length : Int) / 2)] W fun e w' => e = .returned (.string (bs (pack4 d))) ∧ Below W.heap.size W w') := fun W => by rw [hdiv]; exact refU32_any d (by omega) W
      rw [← hd]
      have HC : Hid (∀ W, Below w.heap.size w W → ∀ k x, l[k]? = some x → ∃ b off, ao = some ⟨b, off, none⟩ ∧ W.cell? ⟨b, off + k, none⟩ = some (.string (bs x))) := fun W hb k x hk => by
        obtain ⟨b, off, rfl, hbl, hcc⟩ := hc (by intro h; simp at h; subst h; simp at hk)
        exact ⟨b, off, rfl, (hb.cell (p := ⟨b, off + k, none⟩) hbl).trans (hcc k (bs x) (by simp [hk]))⟩
      have HS := Lib.hid hs
      have HL : Hid (∃ m, m = l.length) := ⟨_, rfl⟩
      obtain ⟨m, hm⟩ := HL.out
      have hm16 : m ≤ 16 := by omega
      have HM := Lib.hid hm
      have HP4 : Hid ((pack4 d).length = 4) := rfl
      rw [← hm] at q2 q16 hU ⊢
      clear hw hc hs h2 h16 hd hm hl HL hdiv
      generalize pack4 d = P4 at *
      go_enter Tryz.func173, Tryz.ntmps173
      go_wp2_with (go_at_call 68; with_reducible refine (hU.out _).mono ?_; rintro e w1 ⟨rfl, b1⟩)
      have HBw := Lib.hid b1
      clear b1 hU
      go_loopw [4, 5] (fun f i wr => ∃ k, k ≤ m ∧ i = .int .i64 ((k : Nat) : Int) ∧ f = .string (bs (P4 ++ ((l.take k).map cnt).flatten)) ∧ Below w.heap.size w wr) (fun _ i _ => m - (intOf i).toNat)
      case atStart => exact ⟨0, Nat.zero_le _, rfl, by simp, HBw.out⟩
      case round =>
        obtain ⟨k, hk, rfl, rfl, hbel⟩ := hrel
        by_cases hlt : k < m
        · obtain ⟨x, hx⟩ : ∃ x, l[k]? = some x := ⟨_, List.getElem?_eq_getElem (by have := HM.out; omega)⟩
          obtain ⟨b, off, rfl, y⟩ := HC.out wr hbel k x hx
          have hxl := HS.out x (List.mem_of_getElem? hx)
          have HT := Lib.hid (fun W => qT_any x hxl W)
          have HX := Lib.hid (cnts_snoc hx P4)
          have hadd : ∀ W : World, (Op.stringOp .add (bs (P4 ++ ((l.take k).map cnt).flatten)) (bs (cnt x))).run Tryz.prog W = .ok (.string (bs (P4 ++ ((l.take (k + 1)).map cnt).flatten))) W := fun W => by
            rw [← HX.out]
            refine add_str _ _ ?_ W
            have h1 := cnts_len 1000000 (l.take k) fun y hy => HS.out y (List.mem_of_mem_take hy)
            have h2 : (cnt x).length = x.length + 4 := by simp [cnt, pack4]
            have h3 : (l.take k).length ≤ 16 := by rw [List.length_take]; omega
            have h4 := HP4.out
            rw [List.length_append, h2, h4]
            have h5 := Nat.mul_le_mul_right (1000000 + 4) h3
            omega
          have HBe := Lib.hid hbel
          clear hbel hx
          generalize bs (P4 ++ ((l.take k).map cnt).flatten) = Q at *
          generalize hQ2 : bs (P4 ++ ((l.take (k + 1)).map cnt).flatten) = Q2 at *
          have HQ2 := Lib.hid hQ2
          clear hQ2
          generalize bs (cnt x) = CX at *
          go_wp2_with (go_at_call 94; with_reducible refine (HT.out _).mono ?_; rintro e w3 ⟨rfl, b3⟩; have hb3 := HBe.out.trans (b3.mono HBe.out.size))
          go_roundw
          case rel => exact ⟨k + 1, by omega, by go_num, by rw [HQ2.out], hb3⟩
          case measure => simp [intOf]; omega
        · have hkm : k = m := by omega
          subst hkm
          have HTk : Hid (l.take k = l) := List.take_of_length_le (by have := HM.out; omega)
          rw [HTk.out]
          have HBe := Lib.hid hbel
          clear hbel hlt
          go_wp2_with fail
          go_ret2
          exact ⟨rfl, HBe.out⟩
  · rw [decide_eq_false h2, Bool.not_false] at q2
    have hw : extsP l = ([], 3) := by unfold extsP; rw [if_pos (by omega)]
    rw [hw]
    clear hw hc hs h2
    generalize l.length = m at *
    go_enter Tryz.func173, Tryz.ntmps173
    go_wp2
    go_ret2
    exact ⟨rfl, Below.refl _ _⟩
end Go.Proofs.YtkmhdepohcncaaaGreatDoor

namespace Go.Proofs.YtkmhdepohcncaaaGreatDoor
open Go.RowKit

theorem bel_drewN {B : Nat} {w w' : World} (h : Below B w w') (n : Nat) : Below B w (w'.drewN n) := ⟨h.os, h.tape, h.output, h.size, h.block⟩
def putQ (x : FieldR) : Wrote :=
  if plainQ x = false then ([], 3)
  else if x.kind.toNat = 98 then (if x.n < 0 ∨ 1 < x.n then ([], 5) else (boolL (decide (x.n = 1)), 0))
  else if x.kind.toNat = 117 then (if x.n < 0 ∨ 4294967295 < x.n then ([], 5) else (pack4 x.n.toNat, 0))
  else if x.kind.toNat = 109 then (if startsZ x.s = true then ([], 3) else (cnt (wholeL x.s), 0))
  else if x.kind.toNat = 110 then (if checkP x.l = 0 then (cnt (joinL x.l), 0) else ([], checkP x.l))
  else if x.kind.toNat = 99 then (if x.s.length = 16 then (x.s, 0) else ([], 3))
  else if x.kind.toNat = 101 then extsP x.l
  else (cnt x.s, 0)
theorem plain_zero (s : List UInt8) : plainL s = s ↔ startsZ s = false := by
  cases s with
  | nil => simp [plainL, startsZ]
  | cons b r =>
    unfold plainL startsZ
    by_cases h : b = 0
    · subst h
      simp only [if_true, decide_true, Bool.true_eq_false, iff_false]
      intro e
      have := congrArg List.length e
      have h2 := plainL_le r
      simp at this
      omega
    · simp [h]

set_option maxHeartbeats 2000000 in
set_option maxRecDepth 100000 in
theorem put_any {x : FieldR} {w : World} {v : Value} (hv : TextsAt w v (x.l.map bs)) (ho : FieldOk x) :
    Calls Tryz.prog 128 #[fieldV x v] w fun e w' => e = wroteV (putQ x) ∧ Below w.heap.size w w' := by
  unfold wroteV
  have HPl := Lib.hid (fun (W : World) (hb : Below w.heap.size w W) => plain_any (hv.below hb) (by have := ho.s; omega : x.s.length ≤ 1000000))
  have HEx := Lib.hid (fun (W : World) (hb : Below w.heap.size w W) => qexts_any (hv.below hb) (by have := ho.l; omega) ho.ls)
  have HWr := Lib.hid (fun (W : World) (hb : Below w.heap.size w W) => rWrong_any (hv.below hb) (by have := ho.l; unfold maxLen; omega) ho.ls)
  have HJo : Hid (checkP x.l = 0 → ∀ (W : World) (hb : Below w.heap.size w W), Calls Tryz.prog 172 #[v] W fun e w' => e = .returned (.string (bs (joinL x.l))) ∧ w' = W) := fun hc W hb =>
    rJoin_any (hv.below hb) ho.l fun y hy => by
      have := (check_all hc).2 y hy
      unfold rightL at this
      rw [Bool.and_eq_true, decide_eq_true_eq] at this
      omega
  have HPq : Hid (∀ W : World, Calls Tryz.prog 169 #[.string (bs x.s)] W fun e w' => e = .returned (.string (bs (plainL x.s))) ∧ w' = W) := fun W => qPlain_any x.s (by have := ho.s; omega) W
  have HWh := Lib.hid (fun W => qW_any x.s ho.s W)
  have HTx := Lib.hid (fun W => qT_any x.s (by have := ho.s; omega) W)
  have hsz := bs_size x.s
  obtain ⟨ao, cap, rfl, _⟩ := hv
  rw [List.length_map] at *
  have HOn := ho.n
  have HOl := ho.l
  obtain ⟨kd, n, s, l⟩ := x
  unfold wroteV fieldV putQ at *
  simp only at *
  have HF := Lib.hid ((Below.refl w.heap.size w).alloc (Nat.le_refl _) (.cells #[.int .u8 (kd.toNat : Int), .int .i64 n, .string (bs s), .slice ao l.length cap] 68))
  have HH := Lib.hid (Holds.new w 68 #[.int .u8 (kd.toNat : Int), .int .i64 n, .string (bs s), .slice ao l.length cap])
  obtain ⟨kz, hkz⟩ : ∃ kz : Int, kz = (kd.toNat : Int) := ⟨_, rfl⟩
  rw [← hkz] at HPl HF HH ⊢
  have each : ∀ j : Int, kz = j ∨ (kz == j) = false := fun j => by
    by_cases h : kz = j
    · exact .inl h
    · exact .inr (by simpa using h)
  generalize plainQ ⟨kd, n, s, l⟩ = pl at *
  cases pl with
  | false =>
    rw [if_pos rfl]
    clear HEx HWr HJo HPq HWh HTx each
    clear hkz
    generalize bs s = S at *
    generalize l.length = m at *
    go_enter Tryz.func128, Tryz.ntmps128
    go_wp2_with (go_at_call 167; with_reducible refine (HPl.out _ HF.out).mono ?_; rintro e w1 ⟨rfl, b1⟩; have hb1 := HF.out.trans (b1.mono HF.out.size))
    go_ret2
    exact ⟨rfl, hb1⟩
  | true =>
    rw [if_neg (by simp)]
    rcases each 98 with rfl | h98
    · rw [if_pos (by omega)]
      clear hkz
      clear HEx HWr HJo HPq HWh HTx each
      generalize bs s = S at *
      generalize l.length = m at *
      by_cases h0 : n < 0
      · rw [if_pos (.inl h0)]
        go_enter Tryz.func128, Tryz.ntmps128
        go_wp2_with (go_at_call 167; with_reducible refine (HPl.out _ HF.out).mono ?_; rintro e w1 ⟨rfl, b1⟩; have hb1 := HF.out.trans (b1.mono HF.out.size); have hH := HH.out.moves (Moves.ofBelow (S := nobody) b1) (fun h => h); have c0 := hH.cell 0; have c1 := hH.cell 1; have c2 := hH.cell 2; have c3 := hH.cell 3)
        go_ret2
        exact ⟨rfl, hb1⟩
      by_cases h1 : 1 < n
      · rw [if_pos (.inr h1)]
        have q1 : n > 1 := h1
        go_enter Tryz.func128, Tryz.ntmps128
        go_wp2_with (go_at_call 167; with_reducible refine (HPl.out _ HF.out).mono ?_; rintro e w1 ⟨rfl, b1⟩; have hb1 := HF.out.trans (b1.mono HF.out.size); have hH := HH.out.moves (Moves.ofBelow (S := nobody) b1) (fun h => h); have c0 := hH.cell 0; have c1 := hH.cell 1; have c2 := hH.cell 2; have c3 := hH.cell 3)
        go_ret2
        exact ⟨rfl, hb1⟩
      rw [if_neg (by omega)]
      by_cases hn : n = 1
      · subst hn
        have HBl := Lib.hid (fun W => qBl_any true W)
        clear h0 h1 HOn
        go_enter Tryz.func128, Tryz.ntmps128
        go_wp2_with (first
          | (go_at_call 167; with_reducible refine (HPl.out _ HF.out).mono ?_; rintro e w1 ⟨rfl, b1⟩; have hb1 := HF.out.trans (b1.mono HF.out.size); have hH := HH.out.moves (Moves.ofBelow (S := nobody) b1) (fun h => h); have c0 := hH.cell 0; have c1 := hH.cell 1; have c2 := hH.cell 2; have c3 := hH.cell 3)
          | (go_at_call 168; with_reducible refine (HBl.out _).mono ?_; rintro e w2 ⟨rfl, b2⟩; have hb2 := hb1.trans (b2.mono hb1.size)))
        go_ret2
        exact ⟨rfl, hb2⟩
      · obtain rfl : n = 0 := by omega
        have HBl := Lib.hid (fun W => qBl_any false W)
        clear h0 h1 HOn hn
        go_enter Tryz.func128, Tryz.ntmps128
        go_wp2_with (first
          | (go_at_call 167; with_reducible refine (HPl.out _ HF.out).mono ?_; rintro e w1 ⟨rfl, b1⟩; have hb1 := HF.out.trans (b1.mono HF.out.size); have hH := HH.out.moves (Moves.ofBelow (S := nobody) b1) (fun h => h); have c0 := hH.cell 0; have c1 := hH.cell 1; have c2 := hH.cell 2; have c3 := hH.cell 3)
          | (go_at_call 168; with_reducible refine (HBl.out _).mono ?_; rintro e w2 ⟨rfl, b2⟩; have hb2 := hb1.trans (b2.mono hb1.size)))
        go_ret2
        exact ⟨rfl, hb2⟩
    have g98 : kd.toNat ≠ 98 := by intro h; rw [hkz, h] at h98; simp at h98
    rw [if_neg g98]
    rcases each 117 with rfl | h117
    · rw [if_pos (by omega)]
      clear hkz
      clear HEx HWr HJo HPq HWh HTx each h98
      generalize bs s = S at *
      generalize l.length = m at *
      by_cases h0 : n < 0
      · rw [if_pos (.inl h0)]
        go_enter Tryz.func128, Tryz.ntmps128
        go_wp2_with (go_at_call 167; with_reducible refine (HPl.out _ HF.out).mono ?_; rintro e w1 ⟨rfl, b1⟩; have hb1 := HF.out.trans (b1.mono HF.out.size); have hH := HH.out.moves (Moves.ofBelow (S := nobody) b1) (fun h => h); have c0 := hH.cell 0; have c1 := hH.cell 1; have c2 := hH.cell 2; have c3 := hH.cell 3)
        go_ret2
        exact ⟨rfl, hb1⟩
      by_cases h1 : 4294967295 < n
      · rw [if_pos (.inr h1)]
        have q1 : n > 4294967295 := h1
        go_enter Tryz.func128, Tryz.ntmps128
        go_wp2_with (go_at_call 167; with_reducible refine (HPl.out _ HF.out).mono ?_; rintro e w1 ⟨rfl, b1⟩; have hb1 := HF.out.trans (b1.mono HF.out.size); have hH := HH.out.moves (Moves.ofBelow (S := nobody) b1) (fun h => h); have c0 := hH.cell 0; have c1 := hH.cell 1; have c2 := hH.cell 2; have c3 := hH.cell 3)
        go_ret2
        exact ⟨rfl, hb1⟩
      rw [if_neg (by omega)]
      obtain ⟨j, rfl⟩ : ∃ j : Nat, n = j := ⟨n.toNat, by omega⟩
      have HU := Lib.hid (refU32_any j (by omega))
      have hj : ((j : Int).toNat) = j := by omega
      rw [hj]
      have q0 : ¬ (j : Int) > 4294967295 := by omega
      clear h0 h1 HOn hj
      generalize bs (pack4 j) = PJ at *
      go_enter Tryz.func128, Tryz.ntmps128
      go_wp2_with (first
        | (go_at_call 167; with_reducible refine (HPl.out _ HF.out).mono ?_; rintro e w1 ⟨rfl, b1⟩; have hb1 := HF.out.trans (b1.mono HF.out.size); have hH := HH.out.moves (Moves.ofBelow (S := nobody) b1) (fun h => h); have c0 := hH.cell 0; have c1 := hH.cell 1; have c2 := hH.cell 2; have c3 := hH.cell 3)
        | (go_at_call 68; with_reducible refine (HU.out _).mono ?_; rintro e w2 ⟨rfl, b2⟩; have hb2 := hb1.trans (b2.mono hb1.size)))
      go_ret2
      exact ⟨rfl, hb2⟩
    have g117 : kd.toNat ≠ 117 := by intro h; rw [hkz, h] at h117; simp at h117
    rw [if_neg g117]
    have z98 : (kz == 98) = false := h98
    have z117 : (kz == 117) = false := h117
    clear h98 h117 HOn
    rcases each 109 with rfl | h109
    · rw [if_pos (by omega)]
      clear hkz
      clear HEx HWr HJo HTx each z98 z117
      cases hz : startsZ s with
      | true =>
        rw [if_pos rfl]
        have hq : ((bs (plainL s)).toList == (bs s).toList) = false := same_no fun e => by
          have := (plain_zero s).1 (bs_inj e)
          rw [hz] at this
          cases this
        clear hz HWh
        generalize bs (plainL s) = PS at *
        generalize bs s = S at *
        generalize l.length = m at *
        go_enter Tryz.func128, Tryz.ntmps128
        go_wp2_with (go_at_call 167; with_reducible refine (HPl.out _ HF.out).mono ?_; rintro e w1 ⟨rfl, b1⟩; have hb1 := HF.out.trans (b1.mono HF.out.size); have hH := HH.out.moves (Moves.ofBelow (S := nobody) b1) (fun h => h); have c0 := hH.cell 0; have c1 := hH.cell 1; have c2 := hH.cell 2; have c3 := hH.cell 3)
        go_quiet (first | (go_at_call 169; refine Calls.quiet_of_same (HPq.out _)))
        have hbq := bel_drewN hb1 nq
        go_wp2_with fail
        go_ret2
        exact ⟨rfl, hbq⟩
      | false =>
        rw [if_neg (by simp)]
        have hq : ((bs (plainL s)).toList == (bs s).toList) = true := same_yes (congrArg bs ((plain_zero s).2 hz))
        clear hz
        generalize bs (plainL s) = PS at *
        generalize bs (cnt (wholeL s)) = WS at *
        generalize bs s = S at *
        generalize l.length = m at *
        go_enter Tryz.func128, Tryz.ntmps128
        go_wp2_with (go_at_call 167; with_reducible refine (HPl.out _ HF.out).mono ?_; rintro e w1 ⟨rfl, b1⟩; have hb1 := HF.out.trans (b1.mono HF.out.size); have hH := HH.out.moves (Moves.ofBelow (S := nobody) b1) (fun h => h); have c0 := hH.cell 0; have c1 := hH.cell 1; have c2 := hH.cell 2; have c3 := hH.cell 3)
        go_quiet (first | (go_at_call 169; refine Calls.quiet_of_same (HPq.out _)))
        have hbq := bel_drewN hb1 nq
        have d2 : (w1.drewN nq).cell? ⟨w.heap.size, 2, none⟩ = some (.string S) := c2
        go_wp2_with (go_at_call 170; with_reducible refine (HWh.out _).mono ?_; rintro e w2 ⟨rfl, b2⟩; have hb2 := hbq.trans (b2.mono hbq.size))
        go_ret2
        exact ⟨rfl, hb2⟩
    have g109 : kd.toNat ≠ 109 := by intro h; rw [hkz, h] at h109; simp at h109
    rw [if_neg g109]
    have z109 : (kz == 109) = false := h109
    clear h109
    rcases each 110 with rfl | h110
    · rw [if_pos (by omega)]
      clear hkz
      clear HEx HTx each z98 z117 z109 HPq HWh
      by_cases hc : checkP l = 0
      · rw [if_pos hc]
        rw [hc] at HWr
        have HJo := Lib.hid (HJo.out hc)
        have hjl : (joinL l).length ≤ 1000000 := by
          have h1 := joinL_le 64 l fun x hx => by
            have := (check_all hc).2 x hx
            unfold rightL at this
            rw [Bool.and_eq_true, decide_eq_true_eq] at this
            omega
          have h2 := Nat.mul_le_mul_right (64 + 1) HOl
          omega
        have HTj := Lib.hid (fun W => qT_any (joinL l) hjl W)
        clear hc hjl
        generalize bs (joinL l) = J at *
        generalize bs (cnt (joinL l)) = CJ at *
        generalize bs s = S at *
        generalize l.length = m at *
        go_enter Tryz.func128, Tryz.ntmps128
        go_wp2_with (first
          | (go_at_call 167; with_reducible refine (HPl.out _ HF.out).mono ?_; rintro e w1 ⟨rfl, b1⟩; have hb1 := HF.out.trans (b1.mono HF.out.size); have hH := HH.out.moves (Moves.ofBelow (S := nobody) b1) (fun h => h); have c0 := hH.cell 0; have c1 := hH.cell 1; have c2 := hH.cell 2; have c3 := hH.cell 3)
          | (go_at_call 171; with_reducible refine (HWr.out _ hb1).mono ?_; rintro e w2 ⟨rfl, hw⟩; have hw := hw.symm; subst hw)
          | (go_at_call 172; with_reducible refine (HJo.out _ hb1).mono ?_; rintro e w2 ⟨rfl, hw⟩; have hw := hw.symm; subst hw)
          | (go_at_call 94; with_reducible refine (HTj.out _).mono ?_; rintro e w2 ⟨rfl, b2⟩; have hb2 := hb1.trans (b2.mono hb1.size)))
        go_ret2
        exact ⟨rfl, hb2⟩
      · rw [if_neg hc]
        have hq : ((checkP l : Int) != 0) = true := by rw [bne_iff_ne]; omega
        clear HJo hc
        generalize checkP l = c at *
        generalize bs s = S at *
        generalize l.length = m at *
        go_enter Tryz.func128, Tryz.ntmps128
        go_wp2_with (first
          | (go_at_call 167; with_reducible refine (HPl.out _ HF.out).mono ?_; rintro e w1 ⟨rfl, b1⟩; have hb1 := HF.out.trans (b1.mono HF.out.size); have hH := HH.out.moves (Moves.ofBelow (S := nobody) b1) (fun h => h); have c0 := hH.cell 0; have c1 := hH.cell 1; have c2 := hH.cell 2; have c3 := hH.cell 3)
          | (go_at_call 171; with_reducible refine (HWr.out _ hb1).mono ?_; rintro e w2 ⟨rfl, hw⟩; have hw := hw.symm; subst hw))
        go_ret2
        exact ⟨rfl, hb1⟩
    have g110 : kd.toNat ≠ 110 := by intro h; rw [hkz, h] at h110; simp at h110
    rw [if_neg g110]
    have z110 : (kz == 110) = false := h110
    clear h110 HWr HJo HPq HWh
    rcases each 99 with rfl | h99
    · rw [if_pos (by omega)]
      clear hkz
      clear HEx HTx each z98 z117 z109 z110
      by_cases h16 : s.length = 16
      · rw [if_pos h16]
        have hq : ((s.length : Int) != 16) = false := by rw [h16]; rfl
        clear h16
        generalize s.length = sl at *
        generalize bs s = S at *
        generalize l.length = m at *
        go_enter Tryz.func128, Tryz.ntmps128
        go_wp2_with (go_at_call 167; with_reducible refine (HPl.out _ HF.out).mono ?_; rintro e w1 ⟨rfl, b1⟩; have hb1 := HF.out.trans (b1.mono HF.out.size); have hH := HH.out.moves (Moves.ofBelow (S := nobody) b1) (fun h => h); have c0 := hH.cell 0; have c1 := hH.cell 1; have c2 := hH.cell 2; have c3 := hH.cell 3)
        go_ret2
        exact ⟨rfl, hb1⟩
      · rw [if_neg h16]
        have hq : ((s.length : Int) != 16) = true := by rw [bne_iff_ne]; omega
        clear h16
        generalize s.length = sl at *
        generalize bs s = S at *
        generalize l.length = m at *
        go_enter Tryz.func128, Tryz.ntmps128
        go_wp2_with (go_at_call 167; with_reducible refine (HPl.out _ HF.out).mono ?_; rintro e w1 ⟨rfl, b1⟩; have hb1 := HF.out.trans (b1.mono HF.out.size); have hH := HH.out.moves (Moves.ofBelow (S := nobody) b1) (fun h => h); have c0 := hH.cell 0; have c1 := hH.cell 1; have c2 := hH.cell 2; have c3 := hH.cell 3)
        go_ret2
        exact ⟨rfl, hb1⟩
    have g99 : kd.toNat ≠ 99 := by intro h; rw [hkz, h] at h99; simp at h99
    rw [if_neg g99]
    have z99 : (kz == 99) = false := h99
    clear h99
    rcases each 101 with rfl | h101
    · rw [if_pos (by omega)]
      clear hkz
      clear HTx each z98 z117 z109 z110 z99
      generalize extsP l = p at *
      obtain ⟨ps, pn⟩ := p
      simp only at *
      generalize bs ps = PS at *
      generalize bs s = S at *
      generalize l.length = m at *
      go_enter Tryz.func128, Tryz.ntmps128
      go_wp2_with (first
        | (go_at_call 167; with_reducible refine (HPl.out _ HF.out).mono ?_; rintro e w1 ⟨rfl, b1⟩; have hb1 := HF.out.trans (b1.mono HF.out.size); have hH := HH.out.moves (Moves.ofBelow (S := nobody) b1) (fun h => h); have c0 := hH.cell 0; have c1 := hH.cell 1; have c2 := hH.cell 2; have c3 := hH.cell 3)
        | (go_at_call 173; with_reducible refine (HEx.out _ hb1).mono ?_; rintro e w2 ⟨rfl, b2⟩; have hb2 := hb1.trans (b2.mono hb1.size)))
      go_ret2
      exact ⟨rfl, hb2⟩
    have g101 : kd.toNat ≠ 101 := by intro h; rw [hkz, h] at h101; simp at h101
    rw [if_neg g101]
    have z101 : (kz == 101) = false := h101
    clear h101 each g98 g117 g109 g110 g99 g101 HEx
    clear hkz
    generalize bs (cnt s) = CS at *
    generalize bs s = S at *
    generalize l.length = m at *
    go_enter Tryz.func128, Tryz.ntmps128
    go_wp2_with (first
      | (go_at_call 167; with_reducible refine (HPl.out _ HF.out).mono ?_; rintro e w1 ⟨rfl, b1⟩; have hb1 := HF.out.trans (b1.mono HF.out.size); have hH := HH.out.moves (Moves.ofBelow (S := nobody) b1) (fun h => h); have c0 := hH.cell 0; have c1 := hH.cell 1; have c2 := hH.cell 2; have c3 := hH.cell 3)
      | (go_at_call 94; with_reducible refine (HTx.out _).mono ?_; rintro e w2 ⟨rfl, b2⟩; have hb2 := hb1.trans (b2.mono hb1.size)))
    go_ret2
    exact ⟨rfl, hb2⟩
end Go.Proofs.YtkmhdepohcncaaaGreatDoor

namespace Go.Proofs.YtkmhdepohcncaaaGreatDoor
open Go.RowKit

def lettersL : List UInt8 := [98, 115, 117, 109, 110, 99, 116, 101]
def isLetter (k : UInt8) : Bool := lettersL.any (fun j => decide (k = j))
theorem isLetter_uses (k : UInt8) : isLetter k = false → usesP (k.toNat : Int) = 0 := by
  intro h
  unfold isLetter lettersL at h
  simp only [List.any_cons, List.any_nil, Bool.or_false, Bool.or_eq_false_iff, decide_eq_false_iff_not] at h
  obtain ⟨h1, h2, h3, h4, h5, h6, h7, h8⟩ := h
  have e : ∀ j : Nat, j < 256 → k ≠ UInt8.ofNat j → k.toNat ≠ j := fun j hj hk hc => hk (by apply UInt8.toNat_inj.1; rw [hc, UInt8.toNat_ofNat']; omega)
  have a1 := e 98 (by omega) h1
  have a2 := e 115 (by omega) h2
  have a3 := e 117 (by omega) h3
  have a4 := e 109 (by omega) h4
  have a5 := e 110 (by omega) h5
  have a6 := e 99 (by omega) h6
  have a7 := e 116 (by omega) h7
  have a8 := e 101 (by omega) h8
  unfold usesP
  rw [if_neg (by omega), if_neg (by omega), if_neg (by omega)]
theorem isLetter_some (k : UInt8) (h : isLetter k = true) : k = 98 ∨ k = 115 ∨ k = 117 ∨ k = 109 ∨ k = 110 ∨ k = 99 ∨ k = 116 ∨ k = 101 := by
  unfold isLetter lettersL at h
  simpa using h
theorem plain_only {x : FieldR} (h : isLetter x.kind = true) : plainQ x = onlyP x.kind.toNat x := by
  obtain ⟨k, n, s, l⟩ := x
  rcases isLetter_some k h with rfl | rfl | rfl | rfl | rfl | rfl | rfl | rfl <;> simp [plainQ, onlyP, usesP]
theorem put_write {x : FieldR} (h : isLetter x.kind = true) : putQ x = writeP x.kind.toNat x := by
  have hp := plain_only h
  obtain ⟨k, n, s, l⟩ := x
  simp only at h hp
  generalize ho : onlyP (k.toNat : Int) ⟨k, n, s, l⟩ = o at hp
  cases o with
  | false =>
    unfold putQ writeP
    rw [if_pos hp, if_pos (.inr ho)]
  | true =>
    have e1 : putQ ⟨k, n, s, l⟩ = _ := if_neg (by rw [hp]; simp)
    have e2 : writeP (k.toNat : Int) ⟨k, n, s, l⟩ = _ := if_neg (by rw [ho]; simp)
    show putQ ⟨k, n, s, l⟩ = writeP (k.toNat : Int) ⟨k, n, s, l⟩
    rw [e1, e2]
    clear e1 e2 hp ho
    rcases isLetter_some k h with rfl | rfl | rfl | rfl | rfl | rfl | rfl | rfl
    · show (if n < 0 ∨ 1 < n then (([], 5) : Wrote) else (boolL (decide (n = 1)), 0)) = wrNum 98 n
      unfold wrNum
      by_cases h0 : n < 0 ∨ 1 < n
      · rw [if_pos h0, if_neg (by omega), if_neg (by omega)]
      · rw [if_neg h0, if_pos (by omega)]
    · rfl
    · show (if n < 0 ∨ 4294967295 < n then (([], 5) : Wrote) else (pack4 n.toNat, 0)) = wrNum 117 n
      unfold wrNum
      by_cases h0 : n < 0 ∨ 4294967295 < n
      · rw [if_pos h0, if_neg (by omega), if_neg (by omega)]
      · rw [if_neg h0, if_neg (by omega), if_pos (by omega)]
    · show (if startsZ s = true then (([], 3) : Wrote) else (cnt (wholeL s), 0)) = wrBytes 109 s
      unfold wrBytes
      cases hz : startsZ s
      · rw [if_neg (by simp), if_neg (by omega), if_pos ⟨rfl, rfl⟩]
      · rw [if_pos rfl, if_neg (by omega), if_neg (by simp), if_neg (by omega)]
    · rfl
    · show (if s.length = 16 then ((s, 0) : Wrote) else ([], 3)) = wrBytes 99 s
      unfold wrBytes
      by_cases h0 : s.length = 16
      · rw [if_pos h0, if_neg (by omega), if_neg (by omega), if_pos ⟨rfl, h0⟩]
      · rw [if_neg h0, if_neg (by omega), if_neg (by omega), if_neg (by omega)]
    · rfl
    · rfl
theorem wrote_none (k : Int) (x : FieldR) (h : (writeP k x).2 ≠ 0) : (writeP k x).1 = [] := by
  unfold writeP wrNum wrBytes wrList extsP at *
  repeat' split
  all_goals first | rfl | (exfalso; simp_all)
end Go.Proofs.YtkmhdepohcncaaaGreatDoor
