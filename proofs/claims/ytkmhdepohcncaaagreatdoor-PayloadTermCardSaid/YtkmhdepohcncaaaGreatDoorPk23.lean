/- Part 23 of what the statement wants. -/
import Derived.Lib.Split
import Derived.Lib.Join
import Derived.Test.YtkmhdepohcncaaaGreatDoorPk00
import Derived.Test.YtkmhdepohcncaaaGreatDoorPk01
import Derived.Test.YtkmhdepohcncaaaGreatDoorPk21
namespace Go.Proofs.YtkmhdepohcncaaaGreatDoor
open Go.RowKit

set_option maxRecDepth 100000 in
theorem qPlain_any (l : List UInt8) (hl : l.length ≤ 1000000) (w : World) : Calls Tryz.prog 169 #[.string (bs l)] w fun e w' => e = .returned (.string (bs (plainL l))) ∧ w' = w := by
  go_enter Tryz.func169, Tryz.ntmps169
  go_wp2_with fail
  go_loopw [0] (fun v wr => ∃ m : List UInt8, m.length ≤ 1000000 ∧ v = .string (bs m) ∧ plainL m = plainL l ∧ wr = w) (fun v _ => strLen v)
  case atStart => exact ⟨l, hl, rfl, rfl, rfl⟩
  case round =>
    obtain ⟨m, hm, rfl, hp, rfl⟩ := hrel
    cases m with
    | nil =>
      have HP : Hid (plainL l = []) := hp.symm
      have HE : Hid (bs ([] : List UInt8) = ⟨#[]⟩) := rfl
      rw [show bs ([] : List UInt8) = ⟨#[]⟩ from rfl]
      clear hp
      go_wp2_with fail
      go_ret
      exact ⟨by rw [HP.out, HE.out]; rfl, rfl⟩
    | cons b r =>
      have hi0 : ∀ W : World, (Instr.index 9 (.string (bs (b :: r))) (.int .i64 0)).run Tryz.prog W = .ok (.int .u8 (b.toNat : Int)) W := fun W => index_bs (b :: r) 0 (by simp) W
      have hd := drop_one b r
      have hsz := bs_size (b :: r)
      simp only [List.length_cons] at hm hsz
      have hrs := bs_size r
      by_cases hb : b = 0
      · have HP : Hid (plainL r = plainL l) := by
          show plainL r = _
          rw [← hp, plainL, if_pos hb]
        have hbn : b.toNat = 0 := by rw [hb]; rfl
        rw [hbn] at hi0
        have hi1 : ∀ W : World, (Instr.index 9 (.string (bs (b :: r))) (.int .i64 0)).run Tryz.prog W = .ok (.int .u8 0) W := hi0
        clear hi0 hp hbn hb
        have hpos : 0 < (bs (b :: r)).size := by omega
        have hle : (bs (b :: r)).size ≤ 1000000 := by omega
        have HR : Hid (∃ T, T = bs r) := ⟨_, rfl⟩
        obtain ⟨T, hT⟩ := HR.out
        rw [← hT] at hd hrs
        rw [hsz] at hd
        have HT := Lib.hid hT
        clear hT
        generalize bs (b :: r) = B at *
        go_wp2_with fail
        go_roundw
        case rel => exact ⟨r, by omega, by rw [HT.out], HP.out, trivial⟩
        case measure => simp only [strLen]; omega
      · have HP : Hid (plainL l = b :: r) := by
          show plainL l = _
          rw [← hp, plainL, if_neg hb]
        have hbn : b.toNat ≠ 0 := fun e => hb (UInt8.toNat_inj.1 e)
        have hq : ((b.toNat : Int) == 0) = false := by
          rw [beq_eq_false_iff_ne]
          omega
        have hpos : 0 < (bs (b :: r)).size := by omega
        have hle : (bs (b :: r)).size ≤ 1000000 := by omega
        clear hp hb hbn hd
        obtain ⟨B, hB⟩ : ∃ B, B = bs (b :: r) := ⟨_, rfl⟩
        rw [← hB] at hi0 hsz hpos hle ⊢
        have HBB := Lib.hid hB
        clear hB
        generalize b.toNat = n at *
        go_wp2_with fail
        go_ret
        exact ⟨by rw [HP.out, ← HBB.out]; rfl, rfl⟩

theorem qB_zero (w : World) : Calls Tryz.prog 69 #[.int .u8 0] w fun e w' => e = .returned (.string (bs [0])) ∧ Below w.heap.size w w' := by
  have hcv := run_string_new w [0] (by simp) #[.int .u8 0] (by simp [byteCells])
  simp only [List.length_cons, List.length_nil] at hcv
  generalize bs [0] = B at *
  go_enter Tryz.func69, Tryz.ntmps69
  go_wp2
  go_ret
  exact ⟨rfl, (Below.refl _ _).alloc (Nat.le_refl _) _⟩

theorem qT_any (l : List UInt8) (hl : l.length ≤ 1000000) (w : World) : Calls Tryz.prog 94 #[.string (bs l)] w fun e w' => e = .returned (.string (bs (cnt l))) ∧ Below w.heap.size w w' := by
  have hsz := bs_size l
  have HE : Hid (bs (pack4 l.length) ++ bs l = bs (cnt l)) := bs_append _ _
  have hp : (bs (pack4 l.length)).size ≤ 4 := by rw [bs_size]; simp [pack4]
  have HU := Lib.hid (fun W => refU32_any l.length (by omega) W)
  rw [← hsz] at HU hp HE
  have hl2 : (bs l).size ≤ 1000000 := by omega
  clear hsz hl
  generalize bs l = B at *
  generalize hS : bs (pack4 B.size) = P at *
  have HS := Lib.hid hS
  clear hS
  go_enter Tryz.func94, Tryz.ntmps94
  go_wp2_with (go_at_call 68; refine (HU.out _).mono ?_; rintro e w' ⟨rfl, hb⟩)
  go_ret
  exact ⟨by rw [← HE.out]; rfl, hb⟩
set_option maxRecDepth 100000 in
theorem qW_any (l : List UInt8) (hl : l.length ≤ 100000) (w : World) : Calls Tryz.prog 170 #[.string (bs l)] w fun e w' => e = .returned (.string (bs (cnt (wholeL l)))) ∧ Below w.heap.size w w' := by
  have HU := Lib.hid (fun W => qPlain_any l (by omega) W)
  have hw := plainL_le l
  have hwh := wholeL_le l
  have HT := Lib.hid (fun W => qT_any (wholeL l) (by omega) W)
  have HW : Hid (wholeL l = if 128 ≤ (hd0 (plainL l)).toNat then 0 :: plainL l else plainL l) := rfl
  generalize wholeL l = wl at *
  generalize plainL l = p at *
  obtain ⟨B, hB⟩ : ∃ B, B = bs l := ⟨_, rfl⟩
  rw [← hB] at HU ⊢
  clear hB
  cases p with
  | nil =>
    have HW2 : Hid (wl = []) := HW.out
    have hT : Hid (∀ W : World, Calls Tryz.prog 94 #[.string ⟨#[]⟩] W fun e w' => e = .returned (.string (bs (cnt wl))) ∧ Below W.heap.size W w') := by
      have := HT.out
      rw [HW2.out] at this ⊢
      exact this
    have HU2 : Hid (∀ W : World, Calls Tryz.prog 169 #[.string B] W fun e w' => e = .returned (.string ⟨#[]⟩) ∧ w' = W) := HU.out
    clear HU HT HW HW2 hw
    generalize cnt wl = cl at *
    go_enter Tryz.func170, Tryz.ntmps170
    go_wp2_with (first
      | (go_at_call 169; refine (HU2.out _).mono ?_; rintro e w' ⟨rfl, rfl⟩)
      | (go_at_call 94; refine (hT.out _).mono ?_; rintro e w' ⟨rfl, hb⟩))
    go_ret
    exact ⟨rfl, hb⟩
  | cons b r =>
    have hi0 : ∀ W : World, (Instr.index 9 (.string (bs (b :: r))) (.int .i64 0)).run Tryz.prog W = .ok (.int .u8 (b.toNat : Int)) W := fun W => index_bs (b :: r) 0 (by simp) W
    have hsz := bs_size (b :: r)
    simp only [List.length_cons] at hsz
    have hpos : 0 < (bs (b :: r)).size := by omega
    have h2 : (bs (b :: r)).size ≤ 1000000 := by rw [bs_size]; omega
    by_cases hb : 128 ≤ b.toNat
    · have HW2 : wl = 0 :: b :: r := by
        have := HW.out
        rwa [if_pos (by exact hb)] at this
      have hq : ((b.toNat : Int) > 127) := by omega
      have HA : Hid (bs [0] ++ bs (b :: r) = bs (0 :: b :: r)) := bs_append _ _
      rw [HW2] at HT ⊢
      have h1 : (bs [0]).size ≤ 1 := by rw [bs_size]; simp
      rw [← HA.out] at HT
      generalize cnt (0 :: b :: r) = cl at *
      clear HW HW2 hsz hb HA
      generalize bs (b :: r) = C at *
      obtain ⟨Z, hZ⟩ : ∃ Z, Z = bs [0] := ⟨_, rfl⟩
      have hz := fun W => qB_zero W
      rw [← hZ] at HT h1
      have HZ : Hid (∀ W : World, Calls Tryz.prog 69 #[.int .u8 0] W fun e w' => e = .returned (.string Z) ∧ Below W.heap.size W w') := by rw [hZ]; exact hz
      clear hZ hz
      generalize b.toNat = n at *
      go_enter Tryz.func170, Tryz.ntmps170
      go_wp2_with (first
        | (go_at_call 169; refine (HU.out _).mono ?_; rintro e w1 ⟨rfl, rfl⟩)
        | (go_at_call 69; refine (HZ.out _).mono ?_; rintro e w2 ⟨rfl, hb2⟩)
        | (go_at_call 94; refine (HT.out _).mono ?_; rintro e w3 ⟨rfl, hb3⟩))
      go_ret
      exact ⟨rfl, hb2.trans (hb3.mono hb2.size)⟩
    · have HW2 : wl = b :: r := by
        have := HW.out
        rwa [if_neg (by exact hb)] at this
      have hq : decide ((b.toNat : Int) > 127) = false := decide_eq_false (by omega)
      rw [HW2] at HT ⊢
      generalize cnt (b :: r) = cl at *
      clear HW HW2 hsz hb
      generalize bs (b :: r) = C at *
      generalize b.toNat = n at *
      go_enter Tryz.func170, Tryz.ntmps170
      go_wp2_with (first
        | (go_at_call 169; refine (HU.out _).mono ?_; rintro e w1 ⟨rfl, rfl⟩)
        | (go_at_call 94; refine (HT.out _).mono ?_; rintro e w3 ⟨rfl, hb3⟩))
      go_ret
      exact ⟨rfl, hb3⟩

end Go.Proofs.YtkmhdepohcncaaaGreatDoor

namespace Go.Proofs.YtkmhdepohcncaaaGreatDoor
open Go.RowKit

def okB (b : UInt8) : Bool := decide (33 ≤ b.toNat ∧ b.toNat ≤ 126 ∧ b.toNat ≠ 44)
def rightL (x : List UInt8) : Bool := decide (1 ≤ x.length ∧ x.length ≤ 64) && x.all okB
def checkP (xs : List (List UInt8)) : Nat := if 16 < xs.length then 2 else if xs.all rightL then 0 else 3
def joinL (xs : List (List UInt8)) : List UInt8 := Lib.join xs [44]
def partsL : List UInt8 → List (List UInt8)
  | [] => [[]]
  | b :: r => if b.toNat = 44 then [] :: partsL r else match partsL r with
    | p :: ps => (b :: p) :: ps
    | [] => [[b]]
def splitP (s : List UInt8) : List (List UInt8) × Nat := if s = [] then ([], 0) else if checkP (partsL s) = 0 then (partsL s, 0) else ([], checkP (partsL s))

theorem partsL_ne : ∀ s : List UInt8, partsL s ≠ []
  | [] => by simp [partsL]
  | b :: r => by
    unfold partsL
    split
    · simp
    · split <;> simp
def nheadP (cur : List UInt8) (ps : List (List UInt8)) : List (List UInt8) := match ps with
  | p :: r => (cur ++ p) :: r
  | [] => [cur]
theorem headP_nil (s : List UInt8) : nheadP [] (partsL s) = partsL s := by
  have := partsL_ne s
  cases h : partsL s with
  | nil => exact absurd h this
  | cons p r => rfl
theorem headP_comma (cur : List UInt8) (b : UInt8) (r : List UInt8) (hb : b.toNat = 44) : nheadP cur (partsL (b :: r)) = cur :: partsL r := by
  rw [partsL, if_pos hb]
  simp [nheadP]
theorem headP_other (cur : List UInt8) (b : UInt8) (r : List UInt8) (hb : b.toNat ≠ 44) : nheadP cur (partsL (b :: r)) = nheadP (cur ++ [b]) (partsL r) := by
  rw [partsL, if_neg hb]
  have := partsL_ne r
  cases h : partsL r with
  | nil => exact absurd h this
  | cons p q => simp [nheadP]
theorem headP_end (cur : List UInt8) : nheadP cur (partsL []) = [cur] := by simp [nheadP, partsL]

/-! ### parts and join -/
theorem joinL_nil : joinL [] = [] := rfl
theorem joinL_one (x : List UInt8) : joinL [x] = x := Lib.join_one x _
theorem joinL_cons (x y : List UInt8) (r : List (List UInt8)) : joinL (x :: y :: r) = x ++ 44 :: joinL (y :: r) := by
  unfold joinL
  rw [Lib.join_cons, Lib.join_cons]
  simp [Lib.joinTail]
theorem joinL_snoc : ∀ (xs : List (List UInt8)) (x : List UInt8), xs ≠ [] → joinL (xs ++ [x]) = joinL xs ++ [44] ++ x
  | [], _, h => absurd rfl h
  | [a], x, _ => by
    show joinL [a, x] = _
    rw [joinL_cons, joinL_one, joinL_one]
    simp
  | a :: b :: r, x, _ => by
    show joinL (a :: b :: (r ++ [x])) = _
    have ih := joinL_snoc (b :: r) x (by simp)
    rw [List.cons_append] at ih
    rw [joinL_cons, joinL_cons, ih]
    simp
theorem join_parts : ∀ s : List UInt8, joinL (partsL s) = s
  | [] => rfl
  | b :: r => by
    have ih := join_parts r
    have hne := partsL_ne r
    unfold partsL
    split
    · rename_i hb
      have hb44 : b = 44 := UInt8.toNat_inj.1 hb
      cases h : partsL r with
      | nil => exact absurd h hne
      | cons p q =>
        rw [joinL_cons, ← h, ih, hb44]
        rfl
    · cases h : partsL r with
      | nil => exact absurd h hne
      | cons p q =>
        rw [h] at ih
        show joinL ((b :: p) :: q) = _
        cases q with
        | nil =>
          rw [joinL_one] at ih ⊢
          rw [ih]
        | cons p2 q =>
          rw [joinL_cons] at ih ⊢
          rw [List.cons_append, ih]
theorem parts_plain : ∀ x : List UInt8, (∀ b ∈ x, b.toNat ≠ 44) → ∀ r, partsL (x ++ 44 :: r) = x :: partsL r
  | [], _, r => by
    show partsL (44 :: r) = _
    rw [partsL, if_pos (show (44 : UInt8).toNat = 44 from rfl)]
  | b :: x, h, r => by
    have ih := parts_plain x (fun c hc => h c (by simp [hc])) r
    show partsL (b :: (x ++ 44 :: r)) = _
    rw [partsL, if_neg (h b (by simp)), ih]
theorem parts_last : ∀ x : List UInt8, (∀ b ∈ x, b.toNat ≠ 44) → partsL x = [x]
  | [], _ => rfl
  | b :: x, h => by
    have ih := parts_last x (fun c hc => h c (by simp [hc]))
    rw [partsL, if_neg (h b (by simp)), ih]
theorem parts_join : ∀ xs : List (List UInt8), xs ≠ [] → (∀ x ∈ xs, ∀ b ∈ x, b.toNat ≠ 44) → partsL (joinL xs) = xs
  | [], h, _ => absurd rfl h
  | [x], _, h => by rw [joinL_one]; exact parts_last x (h x (by simp))
  | x :: y :: r, _, h => by
    rw [joinL_cons, parts_plain x (h x (by simp)), parts_join (y :: r) (by simp) (fun z hz => h z (by simp [hz]))]
theorem right_plain {x : List UInt8} (h : rightL x = true) : (∀ b ∈ x, b.toNat ≠ 44) ∧ x ≠ [] := by
  unfold rightL at h
  rw [Bool.and_eq_true] at h
  obtain ⟨h1, h2⟩ := h
  refine ⟨fun b hb => ?_, ?_⟩
  · have := List.all_eq_true.1 h2 b hb
    exact (of_decide_eq_true this).2.2
  · rintro rfl
    simp at h1
theorem check_all {xs : List (List UInt8)} (h : checkP xs = 0) : xs.length ≤ 16 ∧ ∀ x ∈ xs, rightL x = true := by
  unfold checkP at h
  split at h
  · cases h
  · rename_i h1
    split at h
    · rename_i h2
      exact ⟨by omega, fun x hx => List.all_eq_true.1 h2 x hx⟩
    · cases h
theorem split_join {xs : List (List UInt8)} (h : checkP xs = 0) : splitP (joinL xs) = (xs, 0) := by
  obtain ⟨_, hr⟩ := check_all h
  cases xs with
  | nil => rfl
  | cons x r =>
    have hp := parts_join (x :: r) (by simp) (fun y hy => (right_plain (hr y hy)).1)
    have hne : joinL (x :: r) ≠ [] := by
      intro e
      have hx := (right_plain (hr x (by simp))).2
      cases r with
      | nil => rw [joinL_one] at e; exact hx e
      | cons y r => rw [joinL_cons] at e; simp at e
    unfold splitP
    rw [if_neg hne, hp, if_pos h]
theorem join_split (s : List UInt8) (h : (splitP s).2 = 0) : joinL (splitP s).1 = s ∧ checkP (splitP s).1 = 0 := by
  unfold splitP at *
  by_cases h0 : s = []
  · rw [if_pos h0, h0]
    exact ⟨rfl, rfl⟩
  · rw [if_neg h0] at h ⊢
    by_cases h1 : checkP (partsL s) = 0
    · rw [if_pos h1]
      exact ⟨join_parts s, h1⟩
    · rw [if_neg h1] at h
      exact absurd h h1
theorem joinL_le (m : Nat) : ∀ xs : List (List UInt8), (∀ x ∈ xs, x.length ≤ m) → (joinL xs).length ≤ xs.length * (m + 1)
  | [], _ => by simp [joinL_nil]
  | [x], h => by
    rw [joinL_one]
    have := h x (by simp)
    simp; omega
  | x :: y :: r, h => by
    rw [joinL_cons]
    have h1 := h x (by simp)
    have h2 := joinL_le m (y :: r) (fun z hz => h z (by simp [hz]))
    rw [List.length_append, List.length_cons]
    have e : (x :: y :: r).length * (m + 1) = (m + 1) + (y :: r).length * (m + 1) := by rw [List.length_cons, Nat.add_mul]; omega
    omega

/-! ### the library's splitting -/
theorem index_miss : ∀ s : List UInt8, Lib.index s [44] = -1 → partsL s = [s]
  | [], _ => rfl
  | b :: r, h => by
    unfold Lib.index at h
    by_cases hb : b = 44
    · subst hb
      simp [List.isPrefixOf] at h
    · have hp : ([44] : List UInt8).isPrefixOf (b :: r) = false := by
        simp [List.isPrefixOf]
        exact fun e => hb e.symm
      rw [hp] at h
      simp only [Bool.false_eq_true, if_false] at h
      by_cases hi : Lib.index r [44] = -1
      · have ih := index_miss r hi
        have hb' : b.toNat ≠ 44 := fun e => hb (UInt8.toNat_inj.1 e)
        rw [partsL, if_neg hb', ih]
      · rw [if_neg (by simpa using hi)] at h
        have : -1 ≤ Lib.index r [44] := by
          have : ∀ l : List UInt8, -1 ≤ Lib.index l [44] := by
            intro l
            induction l with
            | nil => simp [Lib.index]
            | cons c l ih =>
              unfold Lib.index
              split
              · omega
              · split
                · omega
                · omega
          exact this r
        omega
theorem index_ge : ∀ l : List UInt8, -1 ≤ Lib.index l [44] := by
  intro l
  induction l with
  | nil => simp [Lib.index]
  | cons c l ih =>
    unfold Lib.index
    split
    · omega
    · split
      · omega
      · omega
theorem index_hit : ∀ (s : List UInt8) (i : Nat), Lib.index s [44] = i → partsL s = s.take i :: partsL (s.drop (i + 1))
  | [], i, h => by simp [Lib.index] at h
  | b :: r, i, h => by
    unfold Lib.index at h
    by_cases hb : b = 44
    · subst hb
      simp [List.isPrefixOf] at h
      have : i = 0 := by omega
      subst this
      rw [partsL, if_pos (show (44 : UInt8).toNat = 44 from rfl)]
      rfl
    · have hp : ([44] : List UInt8).isPrefixOf (b :: r) = false := by
        simp [List.isPrefixOf]
        exact fun e => hb e.symm
      rw [hp] at h
      simp only [Bool.false_eq_true, if_false] at h
      by_cases hi : Lib.index r [44] = -1
      · rw [if_pos (by simpa using hi)] at h
        omega
      · rw [if_neg (by simpa using hi)] at h
        have hge := index_ge r
        obtain ⟨j, hj⟩ : ∃ j : Nat, Lib.index r [44] = j := ⟨(Lib.index r [44]).toNat, by omega⟩
        have ih := index_hit r j hj
        have hb' : b.toNat ≠ 44 := fun e => hb (UInt8.toNat_inj.1 e)
        have hij : i = j + 1 := by omega
        subst hij
        rw [partsL, if_neg hb', ih]
        rfl
theorem splitK_parts : ∀ (k : Nat) (s : List UInt8), ((partsL s).length ≤ k + 1 → Lib.splitK [44] 0 k s = partsL s) ∧ (k + 1 < (partsL s).length → (Lib.splitK [44] 0 k s).length = k + 1)
  | 0, s => by
    refine ⟨fun h => ?_, fun _ => rfl⟩
    show [s] = _
    by_cases hi : Lib.index s [44] = -1
    · exact (index_miss s hi).symm
    · have hge := index_ge s
      obtain ⟨j, hj⟩ : ∃ j : Nat, Lib.index s [44] = j := ⟨(Lib.index s [44]).toNat, by omega⟩
      rw [index_hit s j hj] at h
      have := partsL_ne (s.drop (j + 1))
      have := List.length_pos_iff.2 this
      simp at h
      exact absurd h (by assumption)
  | k + 1, s => by
    unfold Lib.splitK
    by_cases hi : Lib.index s [44] = -1
    · rw [if_pos (by simpa using hi), index_miss s hi]
      exact ⟨fun _ => rfl, fun h => by simp at h⟩
    · rw [if_neg (by simpa using hi)]
      have hge := index_ge s
      obtain ⟨j, hj⟩ : ∃ j : Nat, Lib.index s [44] = j := ⟨(Lib.index s [44]).toNat, by omega⟩
      have ih := splitK_parts k (s.drop (j + 1))
      rw [hj, index_hit s j hj]
      simp only [Int.toNat_natCast, Nat.add_zero, List.length_cons, List.length_nil, Nat.zero_add]
      exact ⟨fun h => by rw [ih.1 (by omega)], fun h => by rw [ih.2 (by omega)]⟩
theorem partsL_len : ∀ s : List UInt8, (partsL s).length ≤ s.length + 1
  | [] => by simp [partsL]
  | b :: r => by
    have ih := partsL_len r
    unfold partsL
    split
    · simp; omega
    · split
      · rename_i h
        rw [h] at ih
        simp at ih ⊢
        omega
      · simp
/-- What SplitN of at most 17 gives checks as the parts do, and is the parts where they check. -/
theorem splitN_check (s : List UInt8) : (checkP (Lib.splitK [44] 0 (min 17 (s.length + 1) - 1) s) = checkP (partsL s)) ∧ (checkP (partsL s) = 0 → Lib.splitK [44] 0 (min 17 (s.length + 1) - 1) s = partsL s) := by
  have hl := partsL_len s
  have h := splitK_parts (min 17 (s.length + 1) - 1) s
  by_cases hc : (partsL s).length ≤ min 17 (s.length + 1) - 1 + 1
  · rw [h.1 hc]
    exact ⟨rfl, fun _ => rfl⟩
  · have h2 := h.2 (by omega)
    have e1 : checkP (Lib.splitK [44] 0 (min 17 (s.length + 1) - 1) s) = 2 := by
      unfold checkP
      rw [if_pos (by omega)]
    have e2 : checkP (partsL s) = 2 := by
      unfold checkP
      rw [if_pos (by omega)]
    exact ⟨by rw [e1, e2], fun e => by rw [e2] at e; cases e⟩
end Go.Proofs.YtkmhdepohcncaaaGreatDoor

namespace Go.Proofs.YtkmhdepohcncaaaGreatDoor
open Go.RowKit

theorem right_of {x : List UInt8} (h : 1 ≤ x.length ∧ x.length ≤ 64) (ha : ∀ b ∈ x, okB b = true) : rightL x = true := by
  unfold rightL
  rw [decide_eq_true h, List.all_eq_true.2 ha]
  rfl
theorem right_len {x : List UInt8} (h : ¬ (1 ≤ x.length ∧ x.length ≤ 64)) : rightL x = false := by
  unfold rightL
  rw [decide_eq_false h]
  rfl
theorem right_byte {x : List UInt8} {b : UInt8} (hb : b ∈ x) (h : okB b = false) : rightL x = false := by
  unfold rightL
  rw [Bool.and_eq_false_iff]
  right
  rw [List.all_eq_false]
  exact ⟨b, hb, by rw [h]; simp⟩
theorem bs_isEmpty (x : List UInt8) : (bs x).toList.isEmpty = x.isEmpty := by
  rw [ByteArray.toList_eq]
  simp [bs]

set_option maxRecDepth 100000 in
theorem nRight_any (x : List UInt8) (hx : x.length ≤ 1000000) (w : World) : Calls Tryz.prog 224 #[.string (bs x)] w fun e w' => e = .returned (.bool (rightL x)) ∧ Below w.heap.size w w' := by
  have hsz := bs_size x
  by_cases h0 : x = []
  · subst h0
    have HR : Hid (rightL [] = false) := rfl
    rw [show bs ([] : List UInt8) = ⟨#[]⟩ from rfl]
    go_enter Tryz.func224, Tryz.ntmps224
    go_wp2
    go_ret
    exact ⟨by rw [HR.out]; rfl, Below.refl _ _⟩
  · have hne : (bs x).toList.isEmpty = false := by rw [bs_isEmpty]; simpa using h0
    by_cases h1 : 64 < x.length
    · have HR := Lib.hid (right_len (x := x) (by omega))
      generalize bs x = S at *
      go_enter Tryz.func224, Tryz.ntmps224
      go_wp2
      go_ret
      exact ⟨by rw [HR.out]; rfl, Below.refl _ _⟩
    · have hpos : 1 ≤ x.length := List.length_pos_iff.2 h0
      obtain ⟨c, w2, hcv, hcell, hbel, _⟩ := conv_bytes w x
      have hle : (bs x).size ≤ 64 := by omega
      generalize bs x = S at *
      go_enter Tryz.func224, Tryz.ntmps224
      go_wp2_with fail
      have HC := Lib.hid hcell
      clear hcell hcv
      go_loopw [15] (fun i wr => ∃ k : Nat, k ≤ x.length ∧ i = .int .i64 k ∧ (∀ b ∈ x.take k, okB b = true) ∧ wr = w2) (fun i _ => x.length - (intOf i).toNat)
      case atStart => exact ⟨0, Nat.zero_le _, rfl, by simp, rfl⟩
      case round =>
        obtain ⟨k, hk, rfl, htk, rfl⟩ := hrel
        by_cases hlt : k < x.length
        · have c1 := HC.out k hlt
          obtain ⟨b, hb⟩ : ∃ b, b = x[k] := ⟨_, rfl⟩
          rw [← hb] at c1
          have HN : Hid (okB b = true → ∀ a ∈ x.take (k + 1), okB a = true) := fun e a ha => by
            rw [List.take_succ_eq_append_getElem hlt, ← hb, List.mem_append] at ha
            rcases ha with ha | ha
            · exact htk a ha
            · simp at ha
              rw [ha]; exact e
          have HF : Hid (okB b = false → rightL x = false) := fun e => right_byte (by rw [hb]; exact List.getElem_mem hlt) e
          have HB : Hid (okB b = decide (33 ≤ b.toNat ∧ b.toNat ≤ 126 ∧ b.toNat ≠ 44)) := rfl
          clear hb htk HC
          generalize b.toNat = n at *
          by_cases n1 : n < 33
          · have hq : decide ((n : Int) < 33) = true := decide_eq_true (by omega)
            have HO : Hid (okB b = false) := by show okB b = false; rw [HB.out]; exact decide_eq_false (by omega)
            go_wp2_with fail
            go_ret
            exact ⟨by rw [HF.out HO.out]; rfl, hbel⟩
          · have q1 : decide ((n : Int) < 33) = false := decide_eq_false (by omega)
            by_cases n2 : 126 < n
            · have hq : decide ((n : Int) > 126) = true := decide_eq_true (by omega)
              have HO : Hid (okB b = false) := by show okB b = false; rw [HB.out]; exact decide_eq_false (by omega)
              go_wp2_with fail
              go_ret
              exact ⟨by rw [HF.out HO.out]; rfl, hbel⟩
            · have q2 : decide ((n : Int) > 126) = false := decide_eq_false (by omega)
              by_cases n3 : n = 44
              · have HO : Hid (okB b = false) := by show okB b = false; rw [HB.out]; exact decide_eq_false (by omega)
                subst n3
                go_wp2_with fail
                go_ret
                exact ⟨by rw [HF.out HO.out]; rfl, hbel⟩
              · have q3 : ((n : Int) == (((⟨#[44]⟩ : ByteArray)[0]'(by decide)).toNat : Int)) = false := by
                  show ((n : Int) == 44) = false
                  rw [beq_eq_false_iff_ne]; omega
                have HO : Hid (okB b = true) := by show okB b = true; rw [HB.out]; exact decide_eq_true (by omega)
                go_wp2_with fail
                go_roundw
                case rel => exact ⟨k + 1, by omega, by go_num, HN.out HO.out, trivial⟩
                case measure => simp [intOf]; omega
        · have hkl : k = x.length := by omega
          subst hkl
          rw [List.take_length] at htk
          have HR := Lib.hid (right_of (x := x) (by omega) htk)
          clear htk hlt HC
          go_wp2_with fail
          go_ret
          exact ⟨by rw [HR.out]; rfl, hbel⟩

set_option maxRecDepth 100000 in
theorem rRight_any (x : List UInt8) (hx : x.length ≤ 1000000) (w : World) : Calls Tryz.prog 208 #[.string (bs x)] w fun e w' => e = .returned (.bool (rightL x)) ∧ w' = w := by
  have hsz := bs_size x
  have HI := Lib.hid (fun (k : Nat) (hk : k < x.length) W => index_bs x k hk W)
  have hle : (bs x).size ≤ 1000000 := by omega
  generalize bs x = S at *
  go_enter Tryz.func208, Tryz.ntmps208
  go_wp2_with fail
  go_loopw [3] (fun i wr => ∃ k : Nat, k ≤ x.length ∧ i = .int .i64 k ∧ (∀ b ∈ x.take k, okB b = true) ∧ wr = w) (fun i _ => x.length - (intOf i).toNat)
  case atStart => exact ⟨0, Nat.zero_le _, rfl, by simp, rfl⟩
  case round =>
    obtain ⟨k, hk, rfl, htk, rfl⟩ := hrel
    by_cases hlt : k < x.length
    · have c1 := HI.out k hlt
      obtain ⟨b, hb⟩ : ∃ b, b = x[k] := ⟨_, rfl⟩
      rw [← hb] at c1
      have HN : Hid (okB b = true → ∀ a ∈ x.take (k + 1), okB a = true) := fun e a ha => by
        rw [List.take_succ_eq_append_getElem hlt, ← hb, List.mem_append] at ha
        rcases ha with ha | ha
        · exact htk a ha
        · simp at ha
          rw [ha]; exact e
      have HF : Hid (okB b = false → rightL x = false) := fun e => right_byte (by rw [hb]; exact List.getElem_mem hlt) e
      have HB : Hid (okB b = decide (33 ≤ b.toNat ∧ b.toNat ≤ 126 ∧ b.toNat ≠ 44)) := rfl
      clear hb htk HI
      generalize b.toNat = n at *
      by_cases n1 : n < 33
      · have hq : decide ((n : Int) < 33) = true := decide_eq_true (by omega)
        have HO : Hid (okB b = false) := by show okB b = false; rw [HB.out]; exact decide_eq_false (by omega)
        go_wp2_with fail
        go_ret
        exact ⟨by rw [HF.out HO.out]; rfl, rfl⟩
      · have q1 : decide ((n : Int) < 33) = false := decide_eq_false (by omega)
        by_cases n2 : 126 < n
        · have hq : decide ((n : Int) > 126) = true := decide_eq_true (by omega)
          have HO : Hid (okB b = false) := by show okB b = false; rw [HB.out]; exact decide_eq_false (by omega)
          go_wp2_with fail
          go_ret
          exact ⟨by rw [HF.out HO.out]; rfl, rfl⟩
        · have q2 : decide ((n : Int) > 126) = false := decide_eq_false (by omega)
          by_cases n3 : n = 44
          · have HO : Hid (okB b = false) := by show okB b = false; rw [HB.out]; exact decide_eq_false (by omega)
            subst n3
            go_wp2_with fail
            go_ret
            exact ⟨by rw [HF.out HO.out]; rfl, rfl⟩
          · have q3 : ((n : Int) == 44) = false := by rw [beq_eq_false_iff_ne]; omega
            have HO : Hid (okB b = true) := by show okB b = true; rw [HB.out]; exact decide_eq_true (by omega)
            go_wp2_with fail
            go_roundw
            case rel => exact ⟨k + 1, by omega, by go_num, HN.out HO.out, trivial⟩
            case measure => simp [intOf]; omega
    · have hkl : k = x.length := by omega
      subst hkl
      rw [List.take_length] at htk
      have HA := Lib.hid htk
      clear htk hlt HI
      by_cases h1 : 1 ≤ x.length
      · have q1 : decide ((x.length : Int) ≥ 1) = true := decide_eq_true (by omega)
        by_cases h2 : x.length ≤ 64
        · have q2 : decide ((x.length : Int) ≤ 64) = true := decide_eq_true (by omega)
          have HR := Lib.hid (right_of (x := x) ⟨h1, h2⟩ HA.out)
          go_wp2_with fail
          go_ret
          exact ⟨by rw [HR.out]; rfl, rfl⟩
        · have q2 : decide ((x.length : Int) ≤ 64) = false := decide_eq_false (by omega)
          have HR := Lib.hid (right_len (x := x) (by omega))
          go_wp2_with fail
          go_ret
          exact ⟨by rw [HR.out]; rfl, rfl⟩
      · have q1 : decide ((x.length : Int) ≥ 1) = false := decide_eq_false (by omega)
        have HR := Lib.hid (right_len (x := x) (by omega))
        go_wp2_with fail
        go_ret
        exact ⟨by rw [HR.out]; rfl, rfl⟩
end Go.Proofs.YtkmhdepohcncaaaGreatDoor
