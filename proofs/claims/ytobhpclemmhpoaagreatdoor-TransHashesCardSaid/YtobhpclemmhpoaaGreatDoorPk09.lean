/- Part 9 of what the statement wants. -/
import Derived.Deep.CutBlock
import Derived.Deep.DeepCutAuto
import Derived.Deep.RegionLaw
import Derived.Test.YtobhpclemmhpoaaGreatDoorPk08
namespace Go.Proofs.YtobhpclemmhpoaaGreatDoor
open Go.RowKit

def PC (d : List UInt8) (f : Nat) : Prop := ∀ k : Nat, k ≤ d.length → d.length < k + f → ∀ W : World, Calls Tryz.prog 78 #[.string (bs d), .int .i64 (k : Int)] W fun e w' =>
  ∃ v, e = .returned (.tuple #[rnodeV (parseN f d k).1 v, .int .i64 ((parseN f d k).2.1 : Int), .bool (parseN f d k).2.2]) ∧ TextsAt w' v ((parseN f d k).1.args.map bs) ∧ Below W.heap.size W w'

/-- A slice of texts in a row of its own, made since. -/
def TextsO (base : Nat) (w : World) (v : Value) (l : List ByteArray) : Prop := TextsAt w v l ∧ ∃ B, base ≤ B ∧ w.ownsRow B 9 1 v l.length (strs l)
theorem TextsO.nil (base : Nat) (w : World) : TextsO base w (.slice none 0 0) [] := ⟨TextsAt.nil w, base, Nat.le_refl _, World.ownsRow_nil _ _ _ _⟩

set_option maxHeartbeats 4000000 in
set_option maxRecDepth 100000 in
theorem parse_in {d : List UInt8} {f : Nat} (hd : d.length ≤ 1000000) (hp : PC d f) (k : Nat) (hk : k < d.length) (hf : d.length < k + (f + 1)) (w : World) :
    Calls Tryz.prog 78 #[.string (bs d), .int .i64 (k : Int)] w fun e w' => ∃ (x : RNode) (en : Nat) (ok : Bool), restP (parseN f d) d k ((byteAt d k : Int) - 240) (headP d ((byteAt d k : Int) - 240) (k + 1)) = (x, en, ok) ∧
  ∃ v, e = .returned (.tuple #[rnodeV x v, .int .i64 (en : Int), .bool ok]) ∧ TextsO w.heap.size w' v (x.args.map bs) ∧ Below w.heap.size w w' := by
  have hsz := bs_size d
  have hix := fun W => index_at d k hk W
  have hc := byteAt_lt d k
  have q0 : decide ((k : Int) ≥ (d.length : Int)) = false := decide_eq_false (by omega)
  go_enter Tryz.func78, Tryz.ntmps78
  go_upto_block 0 with fail
  have HT := Lib.hid (fun (j : Nat) (hj : j ≤ d.length) W => text4_any d j hj hd W)
  have HN := Lib.hid (fun (j : Nat) (hj : j ≤ d.length) W => num4_any d j hj hd W)
  have HI := Lib.hid (fun (j : Nat) (hj : j < d.length) W => index_at d j hj W)
  have HP : Hid (∀ j : Nat, j ≤ d.length → d.length < j + f → ∀ W : World, Calls Tryz.prog 78 #[.string (bs d), .int .i64 (j : Int)] W fun e w' =>
      ∃ v, e = .returned (.tuple #[rnodeV (parseN f d j).1 v, .int .i64 ((parseN f d j).2.1 : Int), .bool (parseN f d j).2.2]) ∧ TextsAt w' v ((parseN f d j).1.args.map bs) ∧ Below W.heap.size W w') := hp
  have HSL := Lib.hid (fun (a b : Nat) (h : a ≤ b) (hb : b ≤ d.length) W => slice_at d a b h hb W)
  obtain ⟨e0, he0⟩ : ∃ e0 : Nat, e0 = k + 1 := ⟨_, rfl⟩
  have he1 : (k : Int) + 1 = (e0 : Int) := by omega
  have hel : e0 ≤ d.length := by omega
  rw [he1]
  obtain ⟨K, hK⟩ : ∃ K : Int, K = (byteAt d k : Int) - 240 := ⟨_, rfl⟩
  rw [← hK]
  obtain ⟨W0, hW0⟩ : ∃ W0, W0 = ((w.alloc (.cells #[.int .i64 0, .int .i64 0, .int .i64 0, .string ⟨#[]⟩, .slice none 0 0] 118)).alloc (.cells #[.int .i64 K, .int .i64 0, .int .i64 0, .string ⟨#[]⟩, .slice none 0 0] 118)) := ⟨_, rfl⟩
  rw [← hW0]
  have hN0 : Holds W0 (w.heap.size + 1) 118 #[.int .i64 K, .int .i64 0, .int .i64 0, .string ⟨#[]⟩, .slice none 0 0] := by
    rw [hW0]
    have := Holds.new (w.alloc (.cells #[.int .i64 0, .int .i64 0, .int .i64 0, .string ⟨#[]⟩, .slice none 0 0] 118)) 118 #[.int .i64 K, .int .i64 0, .int .i64 0, .string ⟨#[]⟩, .slice none 0 0]
    rwa [World.size_alloc] at this
  have hb0 : Below w.heap.size w W0 := by rw [hW0]; exact ((Below.refl _ _).alloc (Nat.le_refl _) _).alloc (by simp) _
  have hR0 : Holds W0 w.heap.size 118 #[.int .i64 0, .int .i64 0, .int .i64 0, .string ⟨#[]⟩, .slice none 0 0] := by
    rw [hW0]
    exact Holds.moves (Holds.new w _ _) ((Moves.refl nobody _).alloc _) fun h => h
  obtain ⟨N, hNn⟩ : ∃ N, N = w.heap.size + 1 := ⟨_, rfl⟩
  rw [← hNn] at hN0 ⊢
  have HNn := Lib.hid hNn
  clear hix q0 hW0 hp hNn
  generalize bs d = S at *
  go_cut [8, 9, 10] (fun e i m wx => e = .int .i64 ((headP d K e0).e : Int) ∧ i = .bool (headP d K e0).ok ∧ m = .int .i64 ((headP d K e0).many : Int) ∧
    Holds wx N 118 #[.int .i64 K, .int .i64 ((headP d K e0).a : Int), .int .i64 ((headP d K e0).b : Int), .string (bs (headP d K e0).s), .slice none 0 0] ∧ Moves (fun j => j = N) W0 wx)
  case first =>
    have n1 := hN0.frozen 1
    have n2 := hN0.frozen 2
    have n3 := hN0.frozen 3
    have m2 := hN0.cell 2
    have HN0 := Lib.hid hN0
    have HMR := Lib.hid (Moves.refl (fun j => j = N) W0)
    clear hb0 hR0 HP he1 hN0 hc hK HSL hf
    by_cases k1 : K = 1
    · subst k1
      have HTe := Lib.hid (fun W => HT.out e0 hel W)
      have HE : Hid (headP d 1 e0 = ⟨0, 0, (text4P d e0).1, (text4P d e0).2.1, (text4P d e0).2.2, 0⟩) := by show headP d 1 e0 = _; simp [headP]
      clear HT HN HI hel he0
      generalize text4P d e0 = t at *
      obtain ⟨ts, te, tok⟩ := t
      simp only at HTe HE
      go_wp2_with (go_at_call 88; with_reducible refine (HTe.out _).mono ?_; rintro e w1 ⟨rfl, b1⟩; have hN1 := Holds.moves HN0.out (Moves.ofBelow (S := nobody) b1) (fun h => h); have f1 := Holds.frozen hN1 3; have c1 := Holds.cell hN1 3)
      go_meet
      case rel => exact ⟨by rw [HE.out], by rw [HE.out], by rw [HE.out]; rfl, by rw [HE.out]; exact Holds.set hN1 3 _, ((HMR.out).trans (Moves.ofBelow (S := fun j => j = N) b1) fun _ h => .inl h).setCell (p := ⟨N, 3, none⟩) (.inl rfl) _⟩
    by_cases k2 : K = 2
    · subst k2
      have HNe := Lib.hid (fun W => HN.out e0 hel W)
      have hlt := num4P_lt d e0
      cases hok : (num4P d e0).2 with
      | true =>
        have h4 := num4P_ok hok
        have HNf : Hid (∀ W : World, Calls Tryz.prog 89 #[.string S, .int .i64 ((e0 : Int) + 4)] W fun e w' => e = .returned (.tuple #[.int .i64 ((num4P d (e0 + 4)).1 : Int), .bool (num4P d (e0 + 4)).2]) ∧ Below W.heap.size W w') := fun W => HN.out (e0 + 4) h4 W
        have HE : Hid (headP d 2 e0 = ⟨(num4P d e0).1, (num4P d (e0 + 4)).1, [], e0 + 8, (num4P d (e0 + 4)).2, 0⟩) := by show headP d 2 e0 = _; simp [headP, hok]
        clear HT HN HI he0 hlt
        rw [hok] at HNe
        generalize (num4P d e0).1 = n at *
        generalize num4P d (e0 + 4) = t at *
        obtain ⟨m, mok⟩ := t
        simp only at HNf HE
        clear hok
        go_wp2_with (first
          | (go_at_call 89; with_reducible refine (HNf.out _).mono ?_; rintro e w2 ⟨rfl, b2⟩; have hN2 := Holds.moves (Holds.set hN1 1 _) (Moves.ofBelow (S := nobody) b2) (fun h => h); have f2 := Holds.frozen hN2 2; have c2 := Holds.cell hN2 2)
          | (go_at_call 89; with_reducible refine (HNe.out _).mono ?_; rintro e w1 ⟨rfl, b1⟩; have hN1 := Holds.moves HN0.out (Moves.ofBelow (S := nobody) b1) (fun h => h); have f1 := Holds.frozen hN1 1; have c1 := Holds.cell hN1 1))
        go_meet
        case rel => exact ⟨by rw [HE.out]; rfl, by rw [HE.out], by rw [HE.out]; rfl, by rw [HE.out]; exact Holds.set hN2 2 _, (((HMR.out.trans (Moves.ofBelow (S := fun j => j = N) b1) fun _ h => .inl h).setCell (p := ⟨N, 1, none⟩) (.inl rfl) _).trans (Moves.ofBelow (S := fun j => j = N) b2) fun _ h => .inl h).setCell (p := ⟨N, 2, none⟩) (.inl rfl) _⟩
      | false =>
        have HE : Hid (headP d 2 e0 = ⟨(num4P d e0).1, 0, [], e0 + 8, false, 0⟩) := by show headP d 2 e0 = _; simp [headP, hok]
        clear HT HN HI he0 hlt
        rw [hok] at HNe
        generalize (num4P d e0).1 = n at *
        clear hok
        go_wp2_with (go_at_call 89; with_reducible refine (HNe.out _).mono ?_; rintro e w1 ⟨rfl, b1⟩; have hN1 := Holds.moves HN0.out (Moves.ofBelow (S := nobody) b1) (fun h => h); have f1 := Holds.frozen hN1 1; have c1 := Holds.cell hN1 1)
        go_meet
        case rel => exact ⟨by rw [HE.out]; rfl, by rw [HE.out], by rw [HE.out]; rfl, by rw [HE.out]; exact Holds.set hN1 1 _, ((HMR.out).trans (Moves.ofBelow (S := fun j => j = N) b1) fun _ h => .inl h).setCell (p := ⟨N, 1, none⟩) (.inl rfl) _⟩
    by_cases k3 : K = 3
    · subst k3
      have HNe := Lib.hid (fun W => HN.out e0 hel W)
      have HE : Hid (headP d 3 e0 = ⟨(num4P d e0).1, 0, [], e0 + 4, (num4P d e0).2, 0⟩) := by show headP d 3 e0 = _; simp [headP]
      clear HT HN HI he0
      generalize num4P d e0 = t at *
      obtain ⟨n, nok⟩ := t
      simp only at HNe HE
      go_wp2_with (go_at_call 89; with_reducible refine (HNe.out _).mono ?_; rintro e w1 ⟨rfl, b1⟩; have hN1 := Holds.moves HN0.out (Moves.ofBelow (S := nobody) b1) (fun h => h); have f1 := Holds.frozen hN1 1; have c1 := Holds.cell hN1 1)
      go_meet
      case rel => exact ⟨by rw [HE.out]; rfl, by rw [HE.out], by rw [HE.out]; rfl, by rw [HE.out]; exact Holds.set hN1 1 _, ((HMR.out).trans (Moves.ofBelow (S := fun j => j = N) b1) fun _ h => .inl h).setCell (p := ⟨N, 1, none⟩) (.inl rfl) _⟩
    by_cases k9 : K = 9
    · subst k9
      have HNe := Lib.hid (fun W => HN.out e0 hel W)
      have HE : Hid (headP d 9 e0 = ⟨0, (num4P d e0).1, [], e0 + 4, (num4P d e0).2, 2⟩) := by show headP d 9 e0 = _; simp [headP]
      clear HT HN HI he0
      generalize num4P d e0 = t at *
      obtain ⟨n, nok⟩ := t
      simp only at HNe HE
      go_wp2_with (go_at_call 89; with_reducible refine (HNe.out _).mono ?_; rintro e w1 ⟨rfl, b1⟩; have hN1 := Holds.moves HN0.out (Moves.ofBelow (S := nobody) b1) (fun h => h); have f1 := Holds.frozen hN1 2; have c1 := Holds.cell hN1 2)
      go_meet
      case rel => exact ⟨by rw [HE.out]; rfl, by rw [HE.out], by rw [HE.out]; rfl, by rw [HE.out]; exact Holds.set hN1 2 _, ((HMR.out).trans (Moves.ofBelow (S := fun j => j = N) b1) fun _ h => .inl h).setCell (p := ⟨N, 2, none⟩) (.inl rfl) _⟩
    by_cases k10 : K = 10
    · subst k10
      have HNe := Lib.hid (fun W => HN.out e0 hel W)
      have HE : Hid (headP d 10 e0 = ⟨0, 0, [], e0 + 4, (num4P d e0).2 && decide ((num4P d e0).1 ≤ 32), (num4P d e0).1⟩) := by show headP d 10 e0 = _; simp [headP]
      clear HT HN HI he0
      generalize num4P d e0 = t at *
      obtain ⟨n, nok⟩ := t
      simp only at HNe HE
      cases nok with
      | true =>
        by_cases hg : n ≤ 32
        · have q1 : decide ((n : Int) ≤ 32) = true := decide_eq_true (by omega)
          have q2 : decide (n ≤ 32) = true := decide_eq_true hg
          rw [q2] at HE
          go_wp2_with (go_at_call 89; with_reducible refine (HNe.out _).mono ?_; rintro e w1 ⟨rfl, b1⟩; have hN1 := Holds.moves HN0.out (Moves.ofBelow (S := nobody) b1) (fun h => h))
          go_meet
          case rel => exact ⟨by rw [HE.out]; rfl, by rw [HE.out]; rfl, by rw [HE.out], by rw [HE.out]; exact hN1, ((HMR.out).trans (Moves.ofBelow (S := fun j => j = N) b1) fun _ h => .inl h)⟩
        · have q1 : decide ((n : Int) ≤ 32) = false := decide_eq_false (by omega)
          have q2 : decide (n ≤ 32) = false := decide_eq_false hg
          rw [q2] at HE
          go_wp2_with (go_at_call 89; with_reducible refine (HNe.out _).mono ?_; rintro e w1 ⟨rfl, b1⟩; have hN1 := Holds.moves HN0.out (Moves.ofBelow (S := nobody) b1) (fun h => h))
          go_meet
          case rel => exact ⟨by rw [HE.out]; rfl, by rw [HE.out]; rfl, by rw [HE.out], by rw [HE.out]; exact hN1, ((HMR.out).trans (Moves.ofBelow (S := fun j => j = N) b1) fun _ h => .inl h)⟩
      | false =>
        go_wp2_with (go_at_call 89; with_reducible refine (HNe.out _).mono ?_; rintro e w1 ⟨rfl, b1⟩; have hN1 := Holds.moves HN0.out (Moves.ofBelow (S := nobody) b1) (fun h => h))
        go_meet
        case rel => exact ⟨by rw [HE.out]; rfl, by rw [HE.out]; rfl, by rw [HE.out], by rw [HE.out]; exact hN1, ((HMR.out).trans (Moves.ofBelow (S := fun j => j = N) b1) fun _ h => .inl h)⟩
    by_cases k4 : K = 4
    · subst k4
      have HE : Hid (headP d 4 e0 = ⟨0, 0, [], e0, true, 1⟩) := by show headP d 4 e0 = _; simp [headP]
      clear HT HN HI he0
      go_wp2_with fail
      go_meet
      case rel => exact ⟨by rw [HE.out], by rw [HE.out], by rw [HE.out]; rfl, by rw [HE.out]; exact HN0.out, HMR.out⟩
    by_cases k7 : K = 7
    · subst k7
      have HE : Hid (headP d 7 e0 = ⟨0, 0, [], e0, true, 1⟩) := by show headP d 7 e0 = _; simp [headP]
      clear HT HN HI he0
      go_wp2_with fail
      go_meet
      case rel => exact ⟨by rw [HE.out], by rw [HE.out], by rw [HE.out]; rfl, by rw [HE.out]; exact HN0.out, HMR.out⟩
    by_cases k6 : K = 6
    · subst k6
      have HTe := Lib.hid (fun W => HT.out e0 hel W)
      have HE : Hid (headP d 6 e0 = ⟨0, 0, (text4P d e0).1, (text4P d e0).2.1, (text4P d e0).2.2, 2⟩) := by show headP d 6 e0 = _; simp [headP]
      clear HT HN HI hel he0
      generalize text4P d e0 = t at *
      obtain ⟨ts, te, tok⟩ := t
      simp only at HTe HE
      go_wp2_with (go_at_call 88; with_reducible refine (HTe.out _).mono ?_; rintro e w1 ⟨rfl, b1⟩; have hN1 := Holds.moves HN0.out (Moves.ofBelow (S := nobody) b1) (fun h => h); have f1 := Holds.frozen hN1 3; have c1 := Holds.cell hN1 3)
      go_meet
      case rel => exact ⟨by rw [HE.out], by rw [HE.out], by rw [HE.out]; rfl, by rw [HE.out]; exact Holds.set hN1 3 _, ((HMR.out).trans (Moves.ofBelow (S := fun j => j = N) b1) fun _ h => .inl h).setCell (p := ⟨N, 3, none⟩) (.inl rfl) _⟩
    by_cases k8 : K = 8
    · subst k8
      by_cases hlt : e0 < d.length
      · have hi := fun W => HI.out e0 hlt W
        have hbl := byteAt_lt d e0
        have HE : Hid (headP d 8 e0 = ⟨0, byteAt d e0, [], e0 + 1, true, 3⟩) := by show headP d 8 e0 = _; simp [headP, hlt]
        have q1 : decide ((e0 : Int) < (d.length : Int)) = true := decide_eq_true (by omega)
        clear HT HN HI he0
        generalize byteAt d e0 = c0 at *
        go_wp2_with fail
        go_meet
        case rel => exact ⟨by rw [HE.out]; rfl, by rw [HE.out], by rw [HE.out]; rfl, by rw [HE.out]; exact Holds.set HN0.out 2 _, HMR.out.setCell (p := ⟨N, 2, none⟩) (.inl rfl) _⟩
      · have HE : Hid (headP d 8 e0 = ⟨0, 0, [], e0 + 1, false, 3⟩) := by show headP d 8 e0 = _; simp [headP, hlt]
        have q1 : decide ((e0 : Int) < (d.length : Int)) = false := decide_eq_false (by omega)
        clear HT HN HI he0
        go_wp2_with fail
        go_meet
        case rel => exact ⟨by rw [HE.out]; rfl, by rw [HE.out], by rw [HE.out]; rfl, by rw [HE.out]; exact HN0.out, HMR.out⟩
    by_cases k5 : K = 5
    · subst k5
      have HTe := Lib.hid (fun W => HT.out e0 hel W)
      cases hok : (text4P d e0).2.2 with
      | true =>
        have h4 := text4P_ok hok
        have HNf := Lib.hid (fun W => HN.out (text4P d e0).2.1 h4.2 W)
        have HE : Hid (headP d 5 e0 = ⟨0, 0, (text4P d e0).1, (text4P d e0).2.1 + 4, (num4P d (text4P d e0).2.1).2 && decide ((num4P d (text4P d e0).2.1).1 ≤ 8), (num4P d (text4P d e0).2.1).1⟩) := by show headP d 5 e0 = _; simp [headP, hok]
        clear HT HN HI he0
        rw [hok] at HTe
        clear hok
        generalize (text4P d e0).1 = ts at *
        generalize (text4P d e0).2.1 = te at *
        generalize num4P d te = t at *
        obtain ⟨n, nok⟩ := t
        simp only at HNf HE
        cases nok with
        | true =>
          by_cases hg : n ≤ 8
          · have q1 : decide ((n : Int) ≤ 8) = true := decide_eq_true (by omega)
            have q2 : decide (n ≤ 8) = true := decide_eq_true hg
            rw [q2] at HE
            go_wp2_with (first
              | (go_at_call 89; with_reducible refine (HNf.out _).mono ?_; rintro e w2 ⟨rfl, b2⟩; have hN2 := Holds.moves (Holds.set hN1 3 _) (Moves.ofBelow (S := nobody) b2) (fun h => h))
              | (go_at_call 88; with_reducible refine (HTe.out _).mono ?_; rintro e w1 ⟨rfl, b1⟩; have hN1 := Holds.moves HN0.out (Moves.ofBelow (S := nobody) b1) (fun h => h); have f1 := Holds.frozen hN1 3; have c1 := Holds.cell hN1 3))
            go_meet
            case rel => exact ⟨by rw [HE.out]; rfl, by rw [HE.out]; rfl, by rw [HE.out], by rw [HE.out]; exact hN2, ((HMR.out.trans (Moves.ofBelow (S := fun j => j = N) b1) fun _ h => .inl h).setCell (p := ⟨N, 3, none⟩) (.inl rfl) _).trans (Moves.ofBelow (S := fun j => j = N) b2) fun _ h => .inl h⟩
          · have q1 : decide ((n : Int) ≤ 8) = false := decide_eq_false (by omega)
            have q2 : decide (n ≤ 8) = false := decide_eq_false hg
            rw [q2] at HE
            go_wp2_with (first
              | (go_at_call 89; with_reducible refine (HNf.out _).mono ?_; rintro e w2 ⟨rfl, b2⟩; have hN2 := Holds.moves (Holds.set hN1 3 _) (Moves.ofBelow (S := nobody) b2) (fun h => h))
              | (go_at_call 88; with_reducible refine (HTe.out _).mono ?_; rintro e w1 ⟨rfl, b1⟩; have hN1 := Holds.moves HN0.out (Moves.ofBelow (S := nobody) b1) (fun h => h); have f1 := Holds.frozen hN1 3; have c1 := Holds.cell hN1 3))
            go_meet
            case rel => exact ⟨by rw [HE.out]; rfl, by rw [HE.out]; rfl, by rw [HE.out], by rw [HE.out]; exact hN2, ((HMR.out.trans (Moves.ofBelow (S := fun j => j = N) b1) fun _ h => .inl h).setCell (p := ⟨N, 3, none⟩) (.inl rfl) _).trans (Moves.ofBelow (S := fun j => j = N) b2) fun _ h => .inl h⟩
        | false =>
          go_wp2_with (first
            | (go_at_call 89; with_reducible refine (HNf.out _).mono ?_; rintro e w2 ⟨rfl, b2⟩; have hN2 := Holds.moves (Holds.set hN1 3 _) (Moves.ofBelow (S := nobody) b2) (fun h => h))
            | (go_at_call 88; with_reducible refine (HTe.out _).mono ?_; rintro e w1 ⟨rfl, b1⟩; have hN1 := Holds.moves HN0.out (Moves.ofBelow (S := nobody) b1) (fun h => h); have f1 := Holds.frozen hN1 3; have c1 := Holds.cell hN1 3))
          go_meet
          case rel => exact ⟨by rw [HE.out]; rfl, by rw [HE.out]; rfl, by rw [HE.out], by rw [HE.out]; exact hN2, ((HMR.out.trans (Moves.ofBelow (S := fun j => j = N) b1) fun _ h => .inl h).setCell (p := ⟨N, 3, none⟩) (.inl rfl) _).trans (Moves.ofBelow (S := fun j => j = N) b2) fun _ h => .inl h⟩
      | false =>
        have HE : Hid (headP d 5 e0 = ⟨0, 0, (text4P d e0).1, (text4P d e0).2.1 + 4, false, 0⟩) := by show headP d 5 e0 = _; simp [headP, hok]
        have hte := text4P_le hel
        clear HT HN HI he0
        rw [hok] at HTe
        clear hok
        generalize (text4P d e0).1 = ts at *
        generalize (text4P d e0).2.1 = te at *
        go_wp2_with (go_at_call 88; with_reducible refine (HTe.out _).mono ?_; rintro e w1 ⟨rfl, b1⟩; have hN1 := Holds.moves HN0.out (Moves.ofBelow (S := nobody) b1) (fun h => h); have f1 := Holds.frozen hN1 3; have c1 := Holds.cell hN1 3)
        go_meet
        case rel => exact ⟨by rw [HE.out]; rfl, by rw [HE.out], by rw [HE.out]; rfl, by rw [HE.out]; exact Holds.set hN1 3 _, ((HMR.out).trans (Moves.ofBelow (S := fun j => j = N) b1) fun _ h => .inl h).setCell (p := ⟨N, 3, none⟩) (.inl rfl) _⟩
    have HE : Hid (headP d K e0 = ⟨0, 0, [], e0, false, 0⟩) := by show headP d K e0 = _; simp [headP, k1, k2, k3, k4, k5, k6, k7, k8, k9, k10]
    have b1 : (K == 1) = false := by rw [beq_eq_false_iff_ne]; exact k1
    have b2 : (K == 2) = false := by rw [beq_eq_false_iff_ne]; exact k2
    have b3 : (K == 3) = false := by rw [beq_eq_false_iff_ne]; exact k3
    have b4 : (K == 4) = false := by rw [beq_eq_false_iff_ne]; exact k4
    have b5 : (K == 5) = false := by rw [beq_eq_false_iff_ne]; exact k5
    have b6 : (K == 6) = false := by rw [beq_eq_false_iff_ne]; exact k6
    have b7 : (K == 7) = false := by rw [beq_eq_false_iff_ne]; exact k7
    have b8 : (K == 8) = false := by rw [beq_eq_false_iff_ne]; exact k8
    have b9 : (K == 9) = false := by rw [beq_eq_false_iff_ne]; exact k9
    have b10 : (K == 10) = false := by rw [beq_eq_false_iff_ne]; exact k10
    clear HT HN HI he0 k1 k2 k3 k4 k5 k6 k7 k8 k9 k10
    go_wp2_with fail
    go_meet
    case rel => exact ⟨by rw [HE.out], by rw [HE.out], by rw [HE.out]; rfl, by rw [HE.out]; exact HN0.out, HMR.out⟩
  case rest =>
    obtain ⟨rfl, rfl, rfl, hn, hm⟩ := hcut
    have hHok := fun h => headP_ok (d := d) (k := K) hel h
    have hHe := headP_e (d := d) (k := K) hel
    have hHm := headP_many (d := d) (k := K) (e := e0)
    have hH1 := fun h => headP_one (d := d) (k := K) (e := e0) h
    have hpo := fun j => parseN_ok d f j
    have hpn := fun j => parseN_no d f j
    have hNR : ¬ w.heap.size = N := by rw [HNn.out]; omega
    have hR1 := hR0.moves hm hNR
    have hb1 : Below w.heap.size w wc := hb0.trans (hm.below (B := w.heap.size) hb0.size (fun i hi => by rw [hi, HNn.out]; omega))
    have hst0 := StepP.start (p := parseN f d) (d := d) (k := k) (H := headP d K e0) (fun h => by have := hHok h; omega)
    have hlim : (headP d K e0).ok = true → (headP d K e0).many ≤ 32 := fun h => (hHok h).2.2
    have HPq : Hid (∀ j : Nat, j ≤ d.length → d.length < j + f → ∀ W : World, Calls Tryz.prog 78 #[.string S, .int .i64 (j : Int)] W fun e w' =>
      ∃ v, e = .returned (.tuple #[rnodeV (parseN f d j).1 v, .int .i64 ((parseN f d j).2.1 : Int), .bool (parseN f d j).2.2]) ∧ TextsAt w' v ((parseN f d j).1.args.map bs) ∧ Below W.heap.size W w') := HP.out
    have hPq := HPq.out
    clear hHok hR0 hb0 hm hN0 HT HN HI hc HP HPq
    obtain ⟨p, hp⟩ : ∃ p, p = parseN f d := ⟨_, rfl⟩
    obtain ⟨H, hH⟩ : ∃ H, H = headP d K e0 := ⟨_, rfl⟩
    have HPost : Hid (restP (parseN f d) d k ((byteAt d k : Int) - 240) (headP d ((byteAt d k : Int) - 240) (k + 1)) = restP p d k K H) := by show _ = _; rw [hp, hH, he0, hK]
    simp only [← hp] at hpo hpn hst0 hPq
    simp only [← hH] at hst0 hlim hH1 hHm hHe hn ⊢
    have HHok := Lib.hid hlim
    have HH1 := Lib.hid hH1
    have HPo := Lib.hid hpo
    have HPn := Lib.hid hpn
    have HP := Lib.hid hPq
    have HBs : Hid (∀ a b : Nat, a ≤ b → b ≤ d.length → ∀ W : World, (Instr.slice 9 (.string S) (some (.int .i64 (a : Int))) (some (.int .i64 (b : Int))) none).run Tryz.prog W = .ok (.string (bs (cutL d a b))) W) := HSL.out
    have HB0 : Hid (∀ R, R = w.heap.size → R = w.heap.size) := fun R h => h
    clear HSL hp hH hpo hpn hPq hlim hH1 he0 he1 hK HB0
    obtain ⟨R, hRr⟩ : ∃ R, R = w.heap.size := ⟨_, rfl⟩
    rw [← hRr] at hR1 hNR hb1 ⊢
    have HB0 : Hid (R = w.heap.size) := hRr
    have hRN : R < N := by rw [HNn.out, HB0.out]; omega
    clear hRr
    go_wp2_with fail
    go_loopw [8, 9, 11] (fun e is i wr => ∃ (j E : Nat) (ok : Bool) (l : List (List UInt8)) (u : Value), e = .int .i64 (E : Int) ∧ is = .bool ok ∧ i = .int .i64 (j : Int) ∧ E ≤ d.length + 8 ∧ StepP p d k H j E ok l ∧
      Holds wr N 118 #[.int .i64 K, .int .i64 (H.a : Int), .int .i64 (H.b : Int), .string (bs H.s), u] ∧ wr.ownsRow (N + 1) 9 1 u (l.map bs).length (strs (l.map bs)) ∧ (l = [] → u = .slice none 0 0) ∧
      Holds wr R 118 #[.int .i64 0, .int .i64 0, .int .i64 0, .string ⟨#[]⟩, .slice none 0 0] ∧ Below R w wr) (fun _ _ i _ => H.many - (intOf i).toNat)
    case atStart => exact ⟨0, H.e, H.ok, [], .slice none 0 0, rfl, rfl, rfl, hHe, hst0, hn, World.ownsRow_nil _ _ _ _, fun _ => rfl, hR1, hb1⟩
    case round =>
      clear hst0 hn hR1 hb1
      obtain ⟨j, E, ok, l, u, rfl, rfl, rfl, hE, hst, hn, hrow, hnil, hR, hbel⟩ := hrel
      have hjm := hst.le
      have hfew := hst.few
      have hRl := hR.lt
      have hNl := hn.lt
      have HSt := Lib.hid hst
      have HNo := Lib.hid hn
      have HRo := Lib.hid hrow
      have HRR := Lib.hid hR
      have HBel := Lib.hid hbel
      have HNil := Lib.hid hnil
      clear hst hnil
      cases ok with
      | false =>
        have HF := Lib.hid (HSt.out.fail K)
        have r0 := Holds.cell hR 0
        have r1 := Holds.cell hR 1
        have r2 := Holds.cell hR 2
        have r3 := Holds.cell hR 3
        have r4 := Holds.cell hR 4
        have s0 := Holds.frozen hR 0
        have s1 := Holds.frozen hR 1
        have s2 := Holds.frozen hR 2
        have s3 := Holds.frozen hR 3
        have s4 := Holds.frozen hR 4
        by_cases hlt : j < H.many
        · have q1 : decide ((j : Int) < (H.many : Int)) = true := decide_eq_true (by omega)
          have q2 : decide (j < H.many) = true := decide_eq_true hlt
          clear hn hrow hR hbel
          go_wp2_with fail
          have hRf := Holds.set (Holds.set (Holds.set (Holds.set (Holds.set HRR.out 0 (.int .i64 0)) 1 (.int .i64 0)) 2 (.int .i64 0)) 3 (.string ⟨#[]⟩)) 4 (.slice none 0 0)
          refine bodyPost_ret (v := .tuple #[rnodeV noRNode (.slice none 0 0), .int .i64 (k : Int), .bool false]) ?_ rfl ⟨noRNode, k, false, ?_, .slice none 0 0, rfl, TextsO.nil _ _, ?_⟩
          · exact run_cell_tmp2 rfl _ _ R _ _ _ _ rfl rfl rfl hRf Tryz.underlying118 rfl (by kernel_rfl)
          · rw [HPost.out]; exact HF.out
          · rw [← HB0.out]; exact (((((HBel.out.setCell (p := ⟨R, 0, none⟩) (Nat.le_refl _) (.int .i64 0)).setCell (p := ⟨R, 1, none⟩) (Nat.le_refl _) (.int .i64 0)).setCell (p := ⟨R, 2, none⟩) (Nat.le_refl _) (.int .i64 0)).setCell (p := ⟨R, 3, none⟩) (Nat.le_refl _) (.string ⟨#[]⟩)).setCell (p := ⟨R, 4, none⟩) (Nat.le_refl _) (.slice none 0 0))
        · have q1 : decide ((j : Int) < (H.many : Int)) = false := decide_eq_false (by omega)
          have q2 : decide (j < H.many) = false := decide_eq_false hlt
          clear hn hrow hR hbel
          go_wp2_with fail
          have hRf := Holds.set (Holds.set (Holds.set (Holds.set (Holds.set HRR.out 0 (.int .i64 0)) 1 (.int .i64 0)) 2 (.int .i64 0)) 3 (.string ⟨#[]⟩)) 4 (.slice none 0 0)
          refine bodyPost_ret (v := .tuple #[rnodeV noRNode (.slice none 0 0), .int .i64 (k : Int), .bool false]) ?_ rfl ⟨noRNode, k, false, ?_, .slice none 0 0, rfl, TextsO.nil _ _, ?_⟩
          · exact run_cell_tmp2 rfl _ _ R _ _ _ _ rfl rfl rfl hRf Tryz.underlying118 rfl (by kernel_rfl)
          · rw [HPost.out]; exact HF.out
          · rw [← HB0.out]; exact (((((HBel.out.setCell (p := ⟨R, 0, none⟩) (Nat.le_refl _) (.int .i64 0)).setCell (p := ⟨R, 1, none⟩) (Nat.le_refl _) (.int .i64 0)).setCell (p := ⟨R, 2, none⟩) (Nat.le_refl _) (.int .i64 0)).setCell (p := ⟨R, 3, none⟩) (Nat.le_refl _) (.string ⟨#[]⟩)).setCell (p := ⟨R, 4, none⟩) (Nat.le_refl _) (.slice none 0 0))
      | true =>
        obtain ⟨_, hkE, hEl, hlj, _⟩ := HSt.out.yes rfl
        by_cases hlt : j < H.many
        · have q1 : decide ((j : Int) < (H.many : Int)) = true := decide_eq_true (by omega)
          have q2 : decide (j < H.many) = true := decide_eq_true hlt
          have hcall := fun W => HP.out E hEl (by omega) W
          cases hyy : (p E).2.2 with
          | false =>
            have hpn := HPn.out E hyy
            have HNx := Lib.hid (HSt.out.bad hlt hyy E)
            rw [hyy, hpn.1, hpn.2] at hcall
            simp only [rnodeV, noRNode] at hcall
            have HC : Hid (∀ W : World, Calls Tryz.prog 78 #[.string S, .int .i64 (E : Int)] W fun e w' => ∃ ao nn cap, e = .returned (.tuple #[.agg #[.int .i64 0, .int .i64 ((0 : Nat) : Int), .int .i64 ((0 : Nat) : Int), .string (bs []), .slice ao nn cap], .int .i64 (E : Int), .bool false]) ∧ Below W.heap.size W w') :=
              fun W => (hcall W).mono (by rintro e w' ⟨v, h1, ⟨ao, cap, h2, _⟩, h3⟩; subst h2; exact ⟨ao, _, cap, h1, h3⟩)
            clear hcall hpn hn hrow hR hbel hyy
            go_wp2_with (go_at_call 78; with_reducible refine (HC.out _).mono ?_; rintro e w1 ⟨ao, nn, cap, rfl, b1⟩)
            have HW := Lib.hid ((Moves.ofBelow (S := nobody) b1).alloc (.cells #[.int .i64 0, .int .i64 ((0 : Nat) : Int), .int .i64 ((0 : Nat) : Int), .string (bs []), .slice ao nn cap] 118))
            go_roundw
            case rel => exact ⟨j + 1, E, false, l, u, rfl, rfl, by go_num, hE, HNx.out, HNo.out.moves HW.out (fun h => h), owns_moves HRo.out HW.out (fun _ _ h => h), HNil.out, HRR.out.moves HW.out (fun h => h), HBel.out.trans (HW.out.below (Nat.le_of_lt hRl) (fun _ h => h.elim))⟩
            case measure => simp [intOf]; omega
          | true =>
            have hpo := HPo.out E hyy
            have HNx := Lib.hid (HSt.out.good HHok.out hlt hyy hpo)
            have hs1 := HBs.out E (p E).2.1 (Nat.le_of_lt hpo.1) hpo.2
            rw [hyy] at hcall
            clear hyy
            generalize (p E).2.1 = E' at *
            generalize (p E).1 = x at *
            obtain ⟨xk, xa, xb, xs, xl⟩ := x
            simp only [rnodeV] at hcall
            generalize hCl : cutL d E E' = Cl at *
            have HC : Hid (∀ W : World, Calls Tryz.prog 78 #[.string S, .int .i64 (E : Int)] W fun e w' => ∃ ao nn cap, e = .returned (.tuple #[.agg #[.int .i64 xk, .int .i64 (xa : Int), .int .i64 (xb : Int), .string (bs xs), .slice ao nn cap], .int .i64 (E' : Int), .bool true]) ∧ Below W.heap.size W w') :=
              fun W => (hcall W).mono (by rintro e w' ⟨v, h1, ⟨ao, cap, h2, _⟩, h3⟩; subst h2; exact ⟨ao, _, cap, h1, h3⟩)
            clear hcall hCl hn hrow hR hbel
            go_wp2_with (go_at_call 78; with_reducible refine (HC.out _).mono ?_; rintro e w1 ⟨ao, nn, cap, rfl, b1⟩)
            obtain ⟨W2, hW2⟩ : ∃ W2, W2 = (w1.alloc (.cells #[.int .i64 xk, .int .i64 (xa : Int), .int .i64 (xb : Int), .string (bs xs), .slice ao nn cap] 118)) := ⟨_, rfl⟩
            rw [← hW2]
            have mv : Moves nobody wr W2 := by rw [hW2]; exact (Moves.ofBelow b1).alloc _
            have hn2 := HNo.out.moves mv (fun h => h)
            have hlj2 : (l.map bs).length = j := by simp [hlj]
            have hrow2 := owns_moves HRo.out mv (fun _ _ h => h)
            rw [hlj2] at hrow2
            have HLE : Hid (((l ++ [Cl]).map bs).length = j + 1) := by show _ = _; simp [hlj]
            have HLM : Hid ((l ++ [Cl]).map bs = l.map bs ++ [bs Cl]) := by show _ = _; simp
            have hN2l := hn2.lt
            clear b1 hW2
            have n4 : W2.cell? ⟨N, 4, none⟩ = some u := hn2.cell 4
            have hrow4 := (hrow2.alloc (.cells #[.string (bs Cl)] 9)).drew
            have hX4 : ((W2.alloc (.cells #[.string (bs Cl)] 9)).drew).cell? ⟨W2.heap.size, 0, none⟩ = some (.string (bs Cl)) := (Holds.new W2 9 #[.string (bs Cl)]).cell 0
            have mv4 : Moves nobody W2 (W2.alloc (.cells #[.string (bs Cl)] 9)).drew := ((Moves.refl _ W2).alloc _).drew
            have hln : j < 100000 := by omega
            go_region_law (
              (refine step_append_str rfl (.tmp 170) (.tmp 175) rfl rfl (N + 1) u (l.map bs) (bs Cl) j hlj2 rfl hrow4 W2.heap.size rfl hX4 hln (by have := mv4.size; omega) ?_
               intro g' cp' w3 hown3 hg3
               have mv5 : Moves (fun i => u.ownBlock = some i) W2 w3 := (mv4.mono fun _ h _ => h.elim).grown hg3 fun _ hi => .inl hi
               have hN3 := hn2.moves mv5 (own_ne hrow2 hn2 (by decide))
               have b4 : w3.cell? ⟨N, 4, none⟩ = some u := hN3.cell 4
               have g4 : w3.frozen? ⟨N, 4, none⟩ = false := hN3.frozen 4))
            all_goals
              have mv6 : Moves (fun i => i = N ∨ u.ownBlock = some i) wr (w3.setCell ⟨N, 4, none⟩ (.slice (some ⟨g', 0, none⟩) (j + 1) cp')) := ((mv.mono fun _ h _ => h.elim).trans mv5 fun _ hi => .inl (.inr hi)).setCell (p := ⟨N, 4, none⟩) (.inl (.inl rfl)) (.slice (some ⟨g', 0, none⟩) (j + 1) cp')
              have hN6 := Holds.set hN3 4 (.slice (some ⟨g', 0, none⟩) (j + 1) cp')
              have hown6 := owns_moves (w' := w3.setCell ⟨N, 4, none⟩ (.slice (some ⟨g', 0, none⟩) (j + 1) cp')) hown3 ((Moves.refl (fun i => i = N) w3).setCell (.inl rfl) _) (fun i hi e => own_ne hown3 hN3 (by decide) (e ▸ hi))
              have hR6 := HRR.out.moves mv6 (by
                rintro (h | h)
                · exact hNR h
                · have := (HRo.out.lt R h).1; omega)
              have hb6 : Below R w (w3.setCell ⟨N, 4, none⟩ (.slice (some ⟨g', 0, none⟩) (j + 1) cp')) := HBel.out.trans (mv6.below (Nat.le_of_lt hRl) (by
                rintro i (h | h)
                · omega
                · have := (HRo.out.lt i h).1; omega))
              have HN6 := Lib.hid hN6
              have HO6 := Lib.hid hown6
              have HR6 := Lib.hid hR6
              have HB6 := Lib.hid hb6
              clear hN6 hown6 hR6 hb6 mv mv4 mv5 mv6 hN3 hown3 hg3 hrow4 hX4 hrow2 hn2 n4 b4 g4
              generalize w3.setCell ⟨N, 4, none⟩ (.slice (some ⟨g', 0, none⟩) (j + 1) cp') = W6 at *
              go_wp2_with fail
              go_roundw
              case rel => exact ⟨j + 1, E', true, l ++ [Cl], (.slice (some ⟨g', 0, none⟩) (j + 1) cp'), rfl, rfl, by go_num, by omega, HNx.out, HN6.out, by rw [HLE.out, HLM.out]; exact HO6.out, fun e => by simp at e, HR6.out, HB6.out⟩
              case measure => simp [intOf]; omega
        · have q1 : decide ((j : Int) < (H.many : Int)) = false := decide_eq_false (by omega)
          have q2 : decide (j < H.many) = false := decide_eq_false hlt
          have HD := Lib.hid (HSt.out.done hlt K)
          have hT := TextsAt.ofRow (l := l.map bs) hrow (fun e => HNil.out (by simpa using e))
          obtain ⟨uo, un, uc, rfl⟩ : ∃ uo un uc, u = .slice uo un uc := by
            obtain ⟨ao, cap, h, _⟩ := hT
            exact ⟨ao, _, cap, h⟩
          have hright := right_any (w := wr) ⟨K, H.a, H.b, H.s, l⟩ hT (by simp only; omega) (fun h => by
            have := HH1.out h
            intro e
            simp only at e
            rw [e] at hlj
            simp at hlj
            omega)
          have n0 := Holds.cell hn 0
          have n1 := Holds.cell hn 1
          have n2 := Holds.cell hn 2
          have n3 := Holds.cell hn 3
          have n4 := Holds.cell hn 4
          cases hr : rightP ⟨K, H.a, H.b, H.s, l⟩ with
          | true =>
            rw [hr] at hright HD
            simp only [rnodeV] at hright
            have HRt := Lib.hid hright
            have HDt : Hid (restP p d k K H = (⟨K, H.a, H.b, H.s, l⟩, E, true)) := HD.out.trans (if_pos rfl)
            clear hright hr HD hn hrow hR hbel hT
            go_wp2_with (
              go_at_call 90
              with_reducible refine HRt.out.mono ?_
              rintro e w1 ⟨rfl, b1⟩
              have hR1 := HRR.out.moves (Moves.ofBelow (S := nobody) b1) (fun h => h)
              have hN1 := HNo.out.moves (Moves.ofBelow (S := nobody) b1) (fun h => h)
              have m0 := Holds.cell hN1 0
              have m1 := Holds.cell hN1 1
              have m2 := Holds.cell hN1 2
              have m3 := Holds.cell hN1 3
              have m4 := Holds.cell hN1 4
              have r0 := Holds.cell hR1 0
              have r1 := Holds.cell hR1 1
              have r2 := Holds.cell hR1 2
              have r3 := Holds.cell hR1 3
              have r4 := Holds.cell hR1 4
              have s0 := Holds.frozen hR1 0
              have s1 := Holds.frozen hR1 1
              have s2 := Holds.frozen hR1 2
              have s3 := Holds.frozen hR1 3
              have s4 := Holds.frozen hR1 4)
            have hRf := Holds.set (Holds.set (Holds.set (Holds.set (Holds.set hR1 0 (.int .i64 K)) 1 (.int .i64 (H.a : Int))) 2 (.int .i64 (H.b : Int))) 3 (.string (bs H.s))) 4 (.slice uo un uc)
            have mf : Moves (fun i => i = R) wr _ := (((((Moves.ofBelow (S := fun i => i = R) b1).setCell (p := ⟨R, 0, none⟩) (.inl rfl) (.int .i64 K)).setCell (p := ⟨R, 1, none⟩) (.inl rfl) (.int .i64 (H.a : Int))).setCell (p := ⟨R, 2, none⟩) (.inl rfl) (.int .i64 (H.b : Int))).setCell (p := ⟨R, 3, none⟩) (.inl rfl) (.string (bs H.s))).setCell (p := ⟨R, 4, none⟩) (.inl rfl) (.slice uo un uc)
            refine bodyPost_ret (v := .tuple #[rnodeV ⟨K, H.a, H.b, H.s, l⟩ (.slice uo un uc), .int .i64 (E : Int), .bool true]) ?_ rfl ⟨⟨K, H.a, H.b, H.s, l⟩, E, true, ?_, (.slice uo un uc), rfl, ?_, ?_⟩
            · exact run_cell_tmp2 rfl _ _ R _ _ _ _ rfl rfl rfl hRf Tryz.underlying118 rfl (by kernel_rfl)
            · rw [HPost.out]; exact HDt.out
            · exact ⟨TextsAt.ofRow (l := l.map bs) (owns_moves HRo.out mf (fun i hi e => by have := (HRo.out.lt i hi).1; omega)) (fun e => HNil.out (by simpa using e)), N + 1, by rw [HNn.out]; omega, owns_moves HRo.out mf (fun i hi e => by have := (HRo.out.lt i hi).1; omega)⟩
            · rw [← HB0.out]; exact HBel.out.trans (mf.below (Nat.le_of_lt hRl) (fun i hi => by omega))
          | false =>
            rw [hr] at hright HD
            simp only [rnodeV] at hright
            have HRt := Lib.hid hright
            have HDt : Hid (restP p d k K H = (noRNode, k, false)) := HD.out.trans (if_neg (by simp))
            clear hright hr HD hn hrow hR hbel hT
            go_wp2_with (
              go_at_call 90
              with_reducible refine HRt.out.mono ?_
              rintro e w1 ⟨rfl, b1⟩
              have hR1 := HRR.out.moves (Moves.ofBelow (S := nobody) b1) (fun h => h)
              have hB1 : Below R w w1 := HBel.out.trans (b1.mono (Nat.le_of_lt hRl))
              have r0 := Holds.cell hR1 0
              have r1 := Holds.cell hR1 1
              have r2 := Holds.cell hR1 2
              have r3 := Holds.cell hR1 3
              have r4 := Holds.cell hR1 4
              have s0 := Holds.frozen hR1 0
              have s1 := Holds.frozen hR1 1
              have s2 := Holds.frozen hR1 2
              have s3 := Holds.frozen hR1 3
              have s4 := Holds.frozen hR1 4)
            have hRf := Holds.set (Holds.set (Holds.set (Holds.set (Holds.set hR1 0 (.int .i64 0)) 1 (.int .i64 0)) 2 (.int .i64 0)) 3 (.string ⟨#[]⟩)) 4 (.slice none 0 0)
            refine bodyPost_ret (v := .tuple #[rnodeV noRNode (.slice none 0 0), .int .i64 (k : Int), .bool false]) ?_ rfl ⟨noRNode, k, false, ?_, .slice none 0 0, rfl, TextsO.nil _ _, ?_⟩
            · exact run_cell_tmp2 rfl _ _ R _ _ _ _ rfl rfl rfl hRf Tryz.underlying118 rfl (by kernel_rfl)
            · rw [HPost.out]; exact HDt.out
            · rw [← HB0.out]; exact (((((hB1.setCell (p := ⟨R, 0, none⟩) (Nat.le_refl _) (.int .i64 0)).setCell (p := ⟨R, 1, none⟩) (Nat.le_refl _) (.int .i64 0)).setCell (p := ⟨R, 2, none⟩) (Nat.le_refl _) (.int .i64 0)).setCell (p := ⟨R, 3, none⟩) (Nat.le_refl _) (.string ⟨#[]⟩)).setCell (p := ⟨R, 4, none⟩) (Nat.le_refl _) (.slice none 0 0))

set_option maxRecDepth 100000 in
theorem parse_end {d : List UInt8} (_hd : d.length ≤ 1000000) (k : Nat) (hk : k = d.length) (w : World) :
    Calls Tryz.prog 78 #[.string (bs d), .int .i64 (k : Int)] w fun e w' => ∃ v, e = .returned (.tuple #[rnodeV noRNode v, .int .i64 (k : Int), .bool false]) ∧ TextsO w.heap.size w' v (noRNode.args.map bs) ∧ Below w.heap.size w w' := by
  have hsz := bs_size d
  have q0 : decide ((k : Int) ≥ (d.length : Int)) = true := decide_eq_true (by omega)
  have q1 : decide (k ≥ d.length) = true := decide_eq_true (by omega)
  have hR := Holds.new w 118 #[.int .i64 0, .int .i64 0, .int .i64 0, .string ⟨#[]⟩, .slice none 0 0]
  have HBel := Lib.hid ((Below.refl w.heap.size w).alloc (Nat.le_refl _) (.cells #[.int .i64 0, .int .i64 0, .int .i64 0, .string ⟨#[]⟩, .slice none 0 0] 118))
  have HRR := Lib.hid hR
  clear hR hk
  generalize bs d = S at *
  generalize d.length = n at *
  go_enter Tryz.func78, Tryz.ntmps78
  go_wp2_with fail
  refine bodyPost_ret (v := .tuple #[rnodeV noRNode (.slice none 0 0), .int .i64 (k : Int), .bool false]) ?_ rfl ⟨.slice none 0 0, rfl, TextsO.nil _ _, HBel.out⟩
  exact run_cell_tmp2 rfl _ _ w.heap.size _ _ _ _ rfl rfl rfl HRR.out Tryz.underlying118 rfl (by kernel_rfl)

theorem PC_all {d : List UInt8} (hd : d.length ≤ 1000000) : ∀ f, PC d f
  | 0 => fun k hk hf => absurd hf (by omega)
  | f + 1 => fun k hk hf W => by
    unfold parseN
    by_cases he : d.length ≤ k
    · rw [if_pos he]
      exact (parse_end hd k (by omega) W).mono fun e w' ⟨v, h1, h2, h3⟩ => ⟨v, h1, h2.1, h3⟩
    · rw [if_neg he]
      refine (parse_in hd (PC_all hd f) k (by omega) hf W).mono ?_
      rintro e w' ⟨x, en, ok, h1, h2⟩
      rw [h1]
      obtain ⟨v, h3, h4, h5⟩ := h2
      exact ⟨v, h3, h4.1, h5⟩
theorem Parse_any (d : List UInt8) (hd : d.length ≤ 1000000) (w : World) : Calls Tryz.prog 78 #[.string (bs d), .int .i64 0] w fun e w' =>
    ∃ v, e = .returned (.tuple #[rnodeV (parseN (d.length + 1) d 0).1 v, .int .i64 ((parseN (d.length + 1) d 0).2.1 : Int), .bool (parseN (d.length + 1) d 0).2.2]) ∧ TextsAt w' v ((parseN (d.length + 1) d 0).1.args.map bs) ∧ Below w.heap.size w w' :=
  PC_all hd (d.length + 1) 0 (Nat.zero_le _) (by omega) w
end Go.Proofs.YtobhpclemmhpoaaGreatDoor
