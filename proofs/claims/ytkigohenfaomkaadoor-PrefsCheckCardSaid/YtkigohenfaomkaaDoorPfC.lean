/- Layer 15: the law PrefsCheck. -/
import Derived.Test.YtkigohenfaomkaaDoorPfB
namespace Go.Proofs.YtkigohenfaomkaaDoor
open Go.RowKit

theorem sizeP : (Tryd.prog.info? 24).map (·.size) = some 8 := by kernel_rfl
def atTwo (S : ByteArray) : ByteArray := ⟨#[112, 114, 101, 102, 115, 32]⟩ ++ S ++ ⟨#[32]⟩
theorem atTwo_is (S : ByteArray) : atP [prefsS, S] = atTwo S := by
  unfold atP atTwo
  simp only [List.foldl_cons, List.foldl_nil]
  rw [show (⟨#[]⟩ : ByteArray) ++ prefsS ++ ⟨#[32]⟩ = ⟨#[112, 114, 101, 102, 115, 32]⟩ from by decide +kernel]
theorem word_small {m : Nat} (hm : m < 8) : (bs (wordZ m)).size ≤ 1000 := by
  have h : ∀ m < 8, (wordZ ((m : Nat) : Int)).length ≤ 10 := by decide +kernel
  rw [bs_size]
  exact Nat.le_trans (h m hm) (by omega)

set_option maxHeartbeats 2000000 in
set_option maxRecDepth 100000 in
theorem prefsCheck_any {w : World} (hT : Tab15 w) (hg : TypeOfError w) {u : Nat → Value} {p : Nat → List (List UInt8)} (h : Eight w u p) (hs : ∀ k < 8, ∀ x ∈ p k, x.length ≤ maxLen) :
    Calls Tryd.prog 3 #[agg8 u] w fun e w' => e = .returned (.bool true) ∧ Below w.heap.size w w' := by
  have hsl := h.sl
  obtain ⟨a0, n0, c0, e0⟩ := hsl 0 (by omega)
  obtain ⟨a1, n1, c1, e1⟩ := hsl 1 (by omega)
  obtain ⟨a2, n2, c2, e2⟩ := hsl 2 (by omega)
  obtain ⟨a3, n3, c3, e3⟩ := hsl 3 (by omega)
  obtain ⟨a4, n4, c4, e4⟩ := hsl 4 (by omega)
  obtain ⟨a5, n5, c5, e5⟩ := hsl 5 (by omega)
  obtain ⟨a6, n6, c6, e6⟩ := hsl 6 (by omega)
  obtain ⟨a7, n7, c7, e7⟩ := hsl 7 (by omega)
  obtain ⟨E, hE⟩ : ∃ E, E = agg8 u := ⟨_, rfl⟩
  have hX : E = .agg #[.slice a0 n0 c0, .slice a1 n1 c1, .slice a2 n2 c2, .slice a3 n3 c3, .slice a4 n4 c4, .slice a5 n5 c5, .slice a6 n6 c6, .slice a7 n7 c7] := by rw [hE]; unfold agg8; rw [e0, e1, e2, e3, e4, e5, e6, e7]
  have hb1 : Below w.heap.size w (w.alloc (.cells #[.slice a0 n0 c0, .slice a1 n1 c1, .slice a2 n2 c2, .slice a3 n3 c3, .slice a4 n4 c4, .slice a5 n5 c5, .slice a6 n6 c6, .slice a7 n7 c7] 24)) := (Below.refl _ _).alloc (Nat.le_refl _) _
  have hbox : (w.alloc (.cells #[.slice a0 n0 c0, .slice a1 n1 c1, .slice a2 n2 c2, .slice a3 n3 c3, .slice a4 n4 c4, .slice a5 n5 c5, .slice a6 n6 c6, .slice a7 n7 c7] 24)).heap[w.heap.size]? = some (.cells #[.slice a0 n0 c0, .slice a1 n1 c1, .slice a2 n2 c2, .slice a3 n3 c3, .slice a4 n4 c4, .slice a5 n5 c5, .slice a6 n6 c6, .slice a7 n7 c7] 24 (0, 0)) := heap_alloc_new w _
  have hsz : (Tryd.prog.info? 24).map (·.size) = some (#[.slice a0 n0 c0, .slice a1 n1 c1, .slice a2 n2 c2, .slice a3 n3 c3, .slice a4 n4 c4, .slice a5 n5 c5, .slice a6 n6 c6, .slice a7 n7 c7] : Array Value).size := sizeP
  obtain ⟨w1, hw1⟩ : ∃ w1, w1 = w.alloc (.cells #[.slice a0 n0 c0, .slice a1 n1 c1, .slice a2 n2 c2, .slice a3 n3 c3, .slice a4 n4 c4, .slice a5 n5 c5, .slice a6 n6 c6, .slice a7 n7 c7] 24) := ⟨_, rfl⟩
  rw [← hw1] at hb1 hbox
  have hbl : w.heap.size < w1.heap.size := by rw [hw1, World.size_alloc]; omega
  have hBox : ∀ W, Below w1.heap.size w1 W → W.heap[w.heap.size]? = some (.cells #[.slice a0 n0 c0, .slice a1 n1 c1, .slice a2 n2 c2, .slice a3 n3 c3, .slice a4 n4 c4, .slice a5 n5 c5, .slice a6 n6 c6, .slice a7 n7 c7] 24 (0, 0)) := fun W hb => (hb.block _ hbl).trans hbox
  have HF := few15_any (h.below hb1) hs
  have HA := Lib.hid (fun (W : World) (hb : Below w1.heap.size w1 W) => awake15_any (hT.below (hb1.trans (hb.mono hb1.size))))
  have HBt : ∀ W, Below w1.heap.size w1 W → Below w.heap.size w W := fun W hb => hb1.trans (hb.mono hb1.size)
  rw [← hE, hX] at HF ⊢
  by_cases hfew : ∀ k < 8, okP15 (p k)
  · have hs6 : ∀ k < 8, ∀ x ∈ p k, x.length ≤ 1000000 := fun k hk x hx => by have := (hfew k hk).2 x hx; omega
    have HF2 : Hid (Calls Tryd.prog 6 #[.agg #[.slice a0 n0 c0, .slice a1 n1 c1, .slice a2 n2 c2, .slice a3 n3 c3, .slice a4 n4 c4, .slice a5 n5 c5, .slice a6 n6 c6, .slice a7 n7 c7]] w1 fun e w' => e = .returned (.bool true) ∧ Below w1.heap.size w1 w') := HF.mono (by
      rintro e w' ⟨z, rfl, hz, hb⟩
      rw [hz.2 hfew]
      exact ⟨rfl, hb⟩)
    rcases bad_or p with hok | ⟨m, hbad⟩
    · have HC : Hid (∀ W, Below w1.heap.size w1 W → Calls Tryd.prog 8 #[.agg #[.slice a0 n0 c0, .slice a1 n1 c1, .slice a2 n2 c2, .slice a3 n3 c3, .slice a4 n4 c4, .slice a5 n5 c5, .slice a6 n6 c6, .slice a7 n7 c7]] W fun e w' => e = .returned .nilIface ∧ Below W.heap.size W w') := fun W hb => by
        rw [← hX, hE]
        exact pfCheck_ok (hT.below (HBt W hb)) (h.below (HBt W hb)) hs6 hok
      have HR : Hid (∀ W, Below w1.heap.size w1 W → Calls Tryd.prog 9 #[.agg #[.slice a0 n0 c0, .slice a1 n1 c1, .slice a2 n2 c2, .slice a3 n3 c3, .slice a4 n4 c4, .slice a5 n5 c5, .slice a6 n6 c6, .slice a7 n7 c7]] W fun e w' => e = .returned (.tuple #[.int .i64 0, .int .i64 (-1)]) ∧ Below W.heap.size W w') := fun W hb => by
        rw [← hX, hE]
        exact r15Check_ok (h.below (HBt W hb)) hs6 hok
      have HBox := Lib.hid hBox
      have HB1 := Lib.hid hb1
      clear HF hBox hb1 hbox hbl HBt hT hg h hs hfew hs6 hok hX hE hsl e0 e1 e2 e3 e4 e5 e6 e7
      have HW := Lib.hid hw1
      clear hw1
      go_enter Tryd.func3, Tryd.ntmps3
      rw [HW.out] at HF2
      go_wp2_with (first
        | (go_at_call 6; (with_reducible refine HF2.out.mono ?_); rintro e w2 ⟨rfl, b2⟩; rw [← HW.out] at b2; have B2 := Lib.hid b2; clear b2)
        | (go_at_call 8; (with_reducible refine (HC.out _ B2.out).mono ?_); rintro e w3 ⟨rfl, b3⟩; have B3 := Lib.hid (B2.out.trans (b3.mono B2.out.size)); clear b3)
        | (go_at_call 9; (with_reducible refine (HR.out _ B3.out).mono ?_); rintro e w4 ⟨rfl, b4⟩; have B4 := Lib.hid (B3.out.trans (b4.mono B3.out.size)); clear b4)
        | (go_at_call 7; (with_reducible refine (HA.out _ B4.out).mono ?_); rintro e w5 ⟨rfl, b5⟩; have B5 := Lib.hid (B4.out.trans (b5.mono B4.out.size)); clear b5)
        | (refine wpList_load_row rfl 24 _ rfl w.heap.size rfl 24 _ (0, 0) _ (HBox.out _ B3.out) Tryd.underlying24 rfl hsz ?_)
        | (refine wpList_load_row rfl 24 _ rfl w.heap.size rfl 24 _ (0, 0) _ (HBox.out _ B2.out) Tryd.underlying24 rfl hsz ?_))
      go_ret
      exact ⟨rfl, HB1.out.trans (B5.out.mono HB1.out.size)⟩
    · have hm8 := hbad.1
      have hne := hbad.2.2
      have HC : Hid (∀ W, Below w1.heap.size w1 W → Calls Tryd.prog 8 #[.agg #[.slice a0 n0 c0, .slice a1 n1 c1, .slice a2 n2 c2, .slice a3 n3 c3, .slice a4 n4 c4, .slice a5 n5 c5, .slice a6 n6 c6, .slice a7 n7 c7]] W fun e w' => ∃ t v, e = .returned (.iface t v) ∧ ErrAt w' (.iface t v) [prefsS, bs (wordZ m)] (some (oneP m (p m))) ∧ Below W.heap.size W w') := fun W hb => by
        rw [← hX, hE]
        exact pfCheck_bad (hT.below (HBt W hb)) (h.below (HBt W hb)) hs6 hbad
      have HR : Hid (∀ W, Below w1.heap.size w1 W → Calls Tryd.prog 9 #[.agg #[.slice a0 n0 c0, .slice a1 n1 c1, .slice a2 n2 c2, .slice a3 n3 c3, .slice a4 n4 c4, .slice a5 n5 c5, .slice a6 n6 c6, .slice a7 n7 c7]] W fun e w' => e = .returned (.tuple #[.int .i64 (oneP m (p m)), .int .i64 (m : Int)]) ∧ Below W.heap.size W w') := fun W hb => by
        rw [← hX, hE]
        exact r15Check_bad (h.below (HBt W hb)) hs6 hbad
      have HWd : Hid (∀ W, Calls Tryd.prog 11 #[.int .i64 (m : Int)] W fun e w' => e = .returned (.string (bs (wordZ m))) ∧ Below W.heap.size W w') := fun W => r15Word_any _ W
      have HWr : Hid (∀ (W : World) (t : TypeId) (v : Value), Below w1.heap.size w1 W → ErrAt W (.iface t v) [prefsS, bs (wordZ m)] (some (oneP m (p m))) → Calls Tryd.prog 10 #[.iface t v, .agg #[.int .i64 (oneP m (p m)), .string (atTwo (bs (wordZ m)))]] W fun r w' => r = .returned (.bool true) ∧ Below W.heap.size W w') := fun W t v hb he => by
        have := wrong_any (hg.later (HBt W hb)) he (by simp) (fun x hx => by
          simp only [List.mem_cons, List.not_mem_nil, or_false] at hx
          rcases hx with rfl | rfl
          · decide
          · exact word_small hm8)
        rw [atTwo_is] at this
        exact this
      have HBox := Lib.hid hBox
      have HB1 := Lib.hid hb1
      generalize oneP m (p m) = c at *
      have hS := word_small hm8
      generalize bs (wordZ m) = S at *
      have hS2 : ((⟨#[112, 114, 101, 102, 115, 32]⟩ : ByteArray) ++ S).size ≤ 2000 := by
        rw [ByteArray.size_append]
        have : (⟨#[112, 114, 101, 102, 115, 32]⟩ : ByteArray).size = 6 := rfl
        omega
      unfold atTwo at HWr
      have q : (c == 0) = false := by simpa using hne
      clear HF hBox hb1 hbox hbl HBt hT hg h hs hfew hs6 hbad hne hX hE hsl e0 e1 e2 e3 e4 e5 e6 e7
      have HW := Lib.hid hw1
      clear hw1
      go_enter Tryd.func3, Tryd.ntmps3
      rw [HW.out] at HF2
      go_wp2_with (first
        | (go_at_call 6; (with_reducible refine HF2.out.mono ?_); rintro e w2 ⟨rfl, b2⟩; rw [← HW.out] at b2; have B2 := Lib.hid b2; clear b2)
        | (go_at_call 8; (with_reducible refine (HC.out _ B2.out).mono ?_); rintro e w3 ⟨t, v, rfl, he3, b3⟩; have B3 := Lib.hid (B2.out.trans (b3.mono B2.out.size)); have HE3 := Lib.hid he3; clear b3 he3)
        | (go_at_call 9; (with_reducible refine (HR.out _ B3.out).mono ?_); rintro e w4 ⟨rfl, b4⟩; have B4 := Lib.hid (B3.out.trans (b4.mono B3.out.size)); have HE4 := Lib.hid (HE3.out.later b4); clear b4)
        | (go_at_call 7; (with_reducible refine (HA.out _ B4.out).mono ?_); rintro e w5 ⟨rfl, b5⟩; have B5 := Lib.hid (B4.out.trans (b5.mono B4.out.size)); have HE5 := Lib.hid (HE4.out.later b5); clear b5)
        | (go_at_call 11; (with_reducible refine (HWd.out _).mono ?_); rintro e w6 ⟨rfl, b6⟩; have B6 := Lib.hid (B5.out.trans (b6.mono B5.out.size)); have HE6 := Lib.hid (HE5.out.later b6); clear b6)
        | (go_at_call 10; (with_reducible refine (HWr.out _ _ _ B6.out HE6.out).mono ?_); rintro e w7 ⟨rfl, b7⟩; have B7 := Lib.hid (B6.out.trans (b7.mono B6.out.size)); clear b7)
        | (refine wpList_load_row rfl 24 _ rfl w.heap.size rfl 24 _ (0, 0) _ (HBox.out _ B3.out) Tryd.underlying24 rfl hsz ?_)
        | (refine wpList_load_row rfl 24 _ rfl w.heap.size rfl 24 _ (0, 0) _ (HBox.out _ B2.out) Tryd.underlying24 rfl hsz ?_))
      go_ret
      exact ⟨rfl, HB1.out.trans (B7.out.mono HB1.out.size)⟩
  · have HF2 : Hid (Calls Tryd.prog 6 #[.agg #[.slice a0 n0 c0, .slice a1 n1 c1, .slice a2 n2 c2, .slice a3 n3 c3, .slice a4 n4 c4, .slice a5 n5 c5, .slice a6 n6 c6, .slice a7 n7 c7]] w1 fun e w' => e = .returned (.bool false) ∧ Below w1.heap.size w1 w') := HF.mono (by
      rintro e w' ⟨z, rfl, hz, hb⟩
      have : z = false := by
        cases z with
        | false => rfl
        | true => exact absurd (hz.1 rfl) hfew
      rw [this]
      exact ⟨rfl, hb⟩)
    have HB1 := Lib.hid hb1
    clear HF hBox hb1 hbox hbl HBt hT hg h hs hfew hX hE hsl e0 e1 e2 e3 e4 e5 e6 e7
    have HW := Lib.hid hw1
    clear hw1
    go_enter Tryd.func3, Tryd.ntmps3
    rw [HW.out] at HF2
    go_wp2_with (first
      | (go_at_call 6; (with_reducible refine HF2.out.mono ?_); rintro e w2 ⟨rfl, b2⟩; rw [← HW.out] at b2; have B2 := Lib.hid b2; clear b2)
      | (go_at_call 7; (with_reducible refine (HA.out _ B2.out).mono ?_); rintro e w5 ⟨rfl, b5⟩; have B5 := Lib.hid (B2.out.trans (b5.mono B2.out.size)); clear b5))
    go_ret
    exact ⟨rfl, HB1.out.trans (B5.out.mono HB1.out.size)⟩
end Go.Proofs.YtkigohenfaomkaaDoor
