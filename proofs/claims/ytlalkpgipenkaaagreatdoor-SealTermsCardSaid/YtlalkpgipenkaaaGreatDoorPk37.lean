/- Part 37 of what the statement wants. -/
import Derived.Test.YtlalkpgipenkaaaGreatDoorPk11
import Derived.Test.YtlalkpgipenkaaaGreatDoorPk19
namespace Go.Proofs.YtlalkpgipenkaaaGreatDoor
open Go.RowKit

set_option maxHeartbeats 1000000 in
set_option maxRecDepth 100000 in
theorem SealTerms_given {w : World} (s : List UInt8) (hs : s.length ≤ 600) (n : Int)
    (hAw : ∀ W, Below w.heap.size w W → Calls Tryz.prog 17 #[] W fun e w' => e = .returned (.bool true) ∧ Below W.heap.size W w') :
    Calls Tryz.prog 5 #[.string (bs s), .int .u32 n] w fun e w' => e = .returned (.bool true) ∧ Below w.heap.size w w' := by
  have hsz := bs_size s
  have q0 : decide ((s.length : Int) > 600) = false := decide_eq_false (by omega)
  have HN := Lib.hid (New_any w)
  have HAw := Lib.hid hAw
  have HX := Lib.hid (fun (k : Int) (W : World) => slNext_any k W)
  have HR := Lib.hid (fun (W : World) => r12Term_any s (by omega) W)
  have HTm : Hid (∀ (W : World) (A : Nat) (F : Nat → Prop), ArenaAt w.heap.size A [] F W → Calls Tryz.prog 18 #[.pointer (some ⟨A, 0, none⟩), .string (bs s)] W fun e w' => ∃ m, e = .returned (.tuple #[.int .i64 m.1, .int .i64 ((unitT s).2 : Int)]) ∧ Grown [] m (unitT s).1 (10 * s.length + 1) ∧ Left w.heap.size A m.2 F W w') := fun W A F ha => slTerm_any ha Good.nil s (by omega) (by simp; omega)
  clear hAw
  generalize (unitT s).2 = e0 at *
  obtain ⟨U, hU⟩ : ∃ U, U = (unitT s).1 := ⟨_, rfl⟩
  rw [← hU] at HR HTm
  clear hU
  obtain ⟨T, hT⟩ : ∃ T, T = bs U := ⟨_, rfl⟩
  have HTT := Lib.hid hT
  rw [← hT] at HR
  clear hT
  generalize bs s = S at *
  go_enter Tryz.func5, Tryz.ntmps5
  go_wp2_with fail
  go_at_call 8
  (with_reducible refine HN.out.mono ?_)
  rintro e w1 ⟨A, F, rfl, ha, b1⟩
  have HP1 := Lib.hid (HTm.out w1 A F ha)
  have HF := Lib.hid (fun i hi => (ha.lt i hi).1)
  have HB1 := Lib.hid b1
  clear ha b1 HN HTm
  go_wp2_with fail
  go_at_call 18
  (with_reducible refine HP1.out.mono ?_)
  rintro e w2 ⟨m, rfl, ht, F2, a2, mv2, f2⟩
  have b2 : Below w.heap.size w w2 := HB1.out.trans (mv2.below HB1.out.size HF.out)
  have hG := ht.good
  have HEn : Hid (∀ W, Below w2.heap.size w2 W → Calls Tryz.prog 20 #[.pointer (some ⟨A, 0, none⟩), .int .i64 m.1] W fun r w' => r = .returned (.string T) ∧ Below W.heap.size W w') := fun W hb => by
    rcases ht.is with ⟨h1, h2⟩ | ⟨n, h1, h2, h3⟩
    · have := Encode_no (a2.below hb) m.1 (.inl (by omega))
      rw [HTT.out, h2]
      exact this
    · have hs := TAt.short hG ht.is
      rw [h3] at hs
      have := Encode_any (a2.below hb) hG.encodable (List.getElem?_eq_getElem h2) (by omega)
      rw [← h3, ← HTT.out] at this
      rw [h1]
      exact this
  have HB2 := Lib.hid b2
  clear a2 mv2 f2 b2 hG ht HP1
  generalize m.1 = i at *
  have qT : (T.toList == T.toList) = true := beq_self_eq_true _
  go_wp2_with fail
  go_at_call 19
  (with_reducible refine (HR.out _).mono ?_)
  rintro e w3 ⟨rfl, b3⟩
  have HB3 := Lib.hid (HB2.out.trans (b3.mono HB2.out.size))
  have H23 := Lib.hid b3
  clear b3
  go_wp2_with (first
    | (go_at_call 17; (with_reducible refine (HAw.out _ HB3.out).mono ?_); rintro e w4 ⟨rfl, b4⟩; have h24 := H23.out.trans (b4.mono H23.out.size); have hB4 := HB3.out.trans (b4.mono HB3.out.size))
    | (go_at_call 20; (with_reducible refine (HEn.out _ h24).mono ?_); rintro e w5 ⟨rfl, b5⟩; have hB5 := hB4.trans (b5.mono hB4.size))
    | (go_at_call 21; (with_reducible refine (HX.out _ _).mono ?_); rintro e w6 ⟨rfl, rfl⟩))
  go_ret
  exact ⟨rfl, hB5⟩
end Go.Proofs.YtlalkpgipenkaaaGreatDoor
